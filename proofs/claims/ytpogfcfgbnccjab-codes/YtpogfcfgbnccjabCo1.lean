import Derived.BigQuiet
import Derived.Deep.RegionLaw
import Derived.KernelRfl
import Derived.RegionTactic
import Derived.Deep.RegionHeld3
import Derived.Deep.MidRow
import Derived.Deep.QuietTactic
import Derived.Lib.LazyBuf
import Derived.Test.YtpogfcfgbnccjabProg
import Derived.WalkKit
import Derived.WalkSpells
import Derived.WalkLawsBesides
import Derived.Laws.BitsAllLaws
import Derived.WalkSmall
import Derived.Laws.CopyOwn
import Derived.ArgAppend
import Derived.Maps.AppendAt
import Derived.Laws.IdiomStrings
import Derived.Laws.AppendOwnNone
import Derived.Laws.MakeOwn
import Derived.Lib.AppendStr
namespace Go.Proofs.Ytpogfcfgbnccjab
open Go.RowKit

theorem ret_int {k : IntKind} {a b : Int} (h : a = b) : Ending.returned (.int k a) = .returned (.int k b) := by rw [h]

end Go.Proofs.Ytpogfcfgbnccjab
namespace Go
open Go.RowKit

/-- Block b of the memory holds just the cells cs; none of them is frozen. -/
def Blk (w : World) (b : Nat) (t : TypeId) (cs : List Value) : Prop := w.heap[b]? = some (.cells cs.toArray t (0, 0))

theorem hide {p : Prop} (h : p) : Hid p := h
theorem Blk.lt {w : World} {b : Nat} {t : TypeId} {cs : List Value} (h : Blk w b t cs) : b < w.heap.size := (Array.getElem?_eq_some_iff.1 h).1
theorem Blk.cell {w : World} {b : Nat} {t : TypeId} {cs : List Value} (h : Blk w b t cs) {i : Nat} {v : Value} (hi : cs[i]? = some v) : w.cell? ⟨b, i, none⟩ = some v := by
  rw [cell_of_row w b i cs.toArray t (0, 0) h]; simpa using hi
theorem Blk.frozen {w : World} {b : Nat} {t : TypeId} {cs : List Value} (h : Blk w b t cs) (i : Nat) : w.frozen? ⟨b, i, none⟩ = false := by
  unfold Blk at h
  simp [World.frozen?, h]
theorem Blk.alloc {w : World} {b : Nat} {t : TypeId} {cs : List Value} (h : Blk w b t cs) (o : Obj) : Blk (w.alloc o) b t cs := by
  unfold Blk; rw [Below.heap_alloc w o b h.lt]; exact h
theorem Blk.new {w : World} {t : TypeId} {arr : Array Value} {n : Nat} {cs : List Value} (hn : n = w.heap.size) (hc : arr = cs.toArray) : Blk (w.alloc (.cells arr t)) n t cs := by
  subst hn hc
  unfold Blk; rw [heap_alloc_new]
theorem Blk.drewN {w : World} {b : Nat} {t : TypeId} {cs : List Value} (h : Blk w b t cs) (n : Nat) : Blk (w.drewN n) b t cs := h
theorem Blk.below {w w' : World} {b : Nat} {t : TypeId} {cs : List Value} (h : Blk w b t cs) {B : Nat} (hb : Below B w w') (hB : b < B) : Blk w' b t cs := by
  unfold Blk; rw [hb.block b hB]; exact h
theorem Blk.grown {w w' : World} {b : Nat} {t : TypeId} {cs : List Value} (h : Blk w b t cs) {row : Option Nat} (hb : w.grownBy w' row) (hB : some b ≠ row) : Blk w' b t cs := by
  unfold Blk; rw [hb.block b h.lt hB]; exact h
theorem Blk.setCell_same {w : World} {b : Nat} {t : TypeId} {cs : List Value} (h : Blk w b t cs) (i : Nat) (v : Value) : Blk (w.setCell ⟨b, i, none⟩ v) b t (cs.set i v) := by
  unfold Blk at h ⊢
  unfold World.setCell
  rw [Array.getElem?_modify, if_pos rfl, h]
  simp
theorem Blk.there {w : World} {b : Nat} {t : TypeId} {cs : List Value} (h : Blk w b t cs) (o n : Nat) (hn : o + n ≤ cs.length) : w.there b o n := fun j hj =>
  ⟨by rw [h.cell (i := o + j) (List.getElem?_eq_getElem (by omega))]; rfl, h.frozen _⟩
/-- cs with the cells vs laid over it from place o on. -/
def laidOver (cs : List Value) (o : Nat) (vs : List Value) : List Value := cs.take o ++ vs ++ cs.drop (o + vs.length)
theorem Blk.setCells_same {b : Nat} {t : TypeId} : ∀ (vs : List Value) (cs : List Value) (o : Nat) (w : World), Blk w b t cs → o + vs.length ≤ cs.length → Blk (w.setCells b o vs) b t (laidOver cs o vs)
  | [], cs, o, w, h, _ => by simpa [World.setCells, laidOver] using h
  | v :: r, cs, o, w, h, hl => by
    rw [World.setCells]
    have h1 := Blk.setCells_same r (cs.set o v) (o + 1) _ (h.setCell_same o v) (by simp at hl ⊢; omega)
    have e : laidOver (cs.set o v) (o + 1) r = laidOver cs o (v :: r) := by
      simp only [List.length_cons] at hl
      unfold laidOver
      rw [List.take_succ_eq_append_getElem (by simp; omega), List.getElem_set_self, List.take_set_of_le (Nat.le_refl _), List.drop_set_of_lt (by omega)]
      simp only [List.length_cons, List.append_assoc, List.cons_append, List.nil_append]
      rw [show o + 1 + r.length = o + (r.length + 1) by omega]
    rw [← e]; exact h1
end Go
namespace Go
open Go.RowKit

theorem World.grownBy.setCell {a w : World} {b : Nat} (h : a.grownBy w (some b)) (i : Nat) (v : Value) : a.grownBy (w.setCell ⟨b, i, none⟩ v) (some b) :=
  h.trans ⟨rfl, rfl, rfl, by simp [World.setCell], fun k _ hr => Below.heap_setCell w ⟨b, i, none⟩ v k (fun e => hr (by rw [e]))⟩
theorem World.grownBy.setCells {a : World} {b : Nat} : ∀ (vs : List Value) (o : Nat) (w : World), a.grownBy w (some b) → a.grownBy (w.setCells b o vs) (some b)
  | [], _, _, h => h
  | v :: r, o, w, h => by rw [World.setCells]; exact World.grownBy.setCells r (o + 1) _ (h.setCell o v)
theorem RowKit.Below.of_grown {B : Nat} {w w' : World} {b : Nat} (h : w.grownBy w' (some b)) (hB : B ≤ b) (hs : B ≤ w.heap.size) : Below B w w' :=
  ⟨h.os, h.tape, h.output, h.size, fun k hk => h.block k (by omega) (by simp; omega)⟩
/-- A whole row is stored over a block's cells from place o on: the world behind it is a letter. -/
theorem wpList_store_blk {P : Program} {ops : Array Oper} {rest : List Oper} {op : Oper} {a : Act} {w : World} {Q : Exit → Act → World → Prop} (hgd : op.guard = none) (ty : TypeId) (x y : Operand) (ho : op.op = .store ty x y)
    (b o : Nat) (cells : Array Value) (hx : a.eval x = .pointer (some ⟨b, o, none⟩)) (hy : a.eval y = .agg cells) (hi : (P.info? ty).map (·.size) = some cells.size) (h1 : cells.all (·.oneCell') = true)
    (t : TypeId) (old : List Value) (hb : Blk w b t old) (hlen : o + cells.size ≤ old.length)
    (h : ∀ w', Blk w' b t (laidOver old o cells.toList) → w.grownBy w' (some b) → wpList P ops Q rest (a.put op.dst undef) w') : wpList P ops Q (op :: rest) a w :=
  wpList_store_mid hgd ty x y ho b o cells hx hy (hb.there o _ hlen) hi h1
    (h _ (Blk.setCells_same _ _ _ _ hb (by simpa using hlen)) (World.grownBy.setCells _ _ _ (World.grownBy.refl w _)))
end Go
namespace Go.Proofs.Ytpogfcfgbnccjab
open Go.RowKit

theorem take_at {cur xs : List Value} {n i : Nat} {v : Value} (h : cur.take n = xs) (hi : xs[i]? = some v) : cur[i]? = some v := by
  rw [← h, List.getElem?_take] at hi
  split at hi
  · exact hi
  · cases hi
end Go.Proofs.Ytpogfcfgbnccjab
namespace Go
open Go.RowKit

/-- Block b holds just the cells cs, whatever mark it bears; none of them is frozen. -/
def BlkM (w : World) (b : Nat) (t : TypeId) (cs : List Value) : Prop :=
  ∃ lo hi, w.heap[b]? = some (.cells cs.toArray t (lo, hi)) ∧ ∀ j, j < cs.length → (decide (lo ≤ j) && decide (j < hi)) = false
section
variable {w : World} {b : Nat} {t : TypeId} {cs : List Value}
theorem Blk.marked (h : Blk w b t cs) : BlkM w b t cs := ⟨0, 0, h, fun j _ => by simp⟩
theorem BlkM.lt (h : BlkM w b t cs) : b < w.heap.size := by
  obtain ⟨lo, hi, h, _⟩ := h
  exact (Array.getElem?_eq_some_iff.1 h).1
theorem BlkM.cell (h : BlkM w b t cs) {i : Nat} {v : Value} (hi : cs[i]? = some v) : w.cell? ⟨b, i, none⟩ = some v := by
  obtain ⟨lo, hi', h, _⟩ := h
  rw [cell_of_row w b i cs.toArray t (lo, hi') h]; simpa using hi
theorem BlkM.frozen (h : BlkM w b t cs) {i : Nat} (hi : i < cs.length) : w.frozen? ⟨b, i, none⟩ = false := by
  obtain ⟨lo, hi', h, hf⟩ := h
  have := hf i hi
  unfold World.frozen?
  rw [h]
  exact this
theorem BlkM.grown {w' : World} (h : BlkM w b t cs) {row : Option Nat} (hb : w.grownBy w' row) (hB : some b ≠ row) : BlkM w' b t cs := by
  have hl := h.lt
  obtain ⟨lo, hi, h, hf⟩ := h
  exact ⟨lo, hi, by rw [hb.block b hl hB]; exact h, hf⟩
theorem BlkM.below {w' : World} (h : BlkM w b t cs) {B : Nat} (hb : Below B w w') (hB : b < B) : BlkM w' b t cs := by
  obtain ⟨lo, hi, h, hf⟩ := h
  exact ⟨lo, hi, by rw [hb.block b hB]; exact h, hf⟩
theorem BlkM.setCell_same (h : BlkM w b t cs) (i : Nat) (v : Value) : BlkM (w.setCell ⟨b, i, none⟩ v) b t (cs.set i v) := by
  obtain ⟨lo, hi, h, hf⟩ := h
  refine ⟨lo, hi, ?_, by simpa using hf⟩
  unfold World.setCell
  rw [Array.getElem?_modify, if_pos rfl, h]
  simp
end
theorem BlkM.setCells_same {b : Nat} {t : TypeId} : ∀ (vs : List Value) (cs : List Value) (o : Nat) (w : World), BlkM w b t cs → o + vs.length ≤ cs.length → BlkM (w.setCells b o vs) b t (laidOver cs o vs)
  | [], cs, o, w, h, _ => by simpa [World.setCells, laidOver] using h
  | v :: r, cs, o, w, h, hl => by
    rw [World.setCells]
    have h1 := BlkM.setCells_same r (cs.set o v) (o + 1) _ (h.setCell_same o v) (by simp at hl ⊢; omega)
    have e : laidOver (cs.set o v) (o + 1) r = laidOver cs o (v :: r) := by
      simp only [List.length_cons] at hl
      unfold laidOver
      rw [List.take_succ_eq_append_getElem (by simp; omega), List.getElem_set_self, List.take_set_of_le (Nat.le_refl _), List.drop_set_of_lt (by omega)]
      simp only [List.length_cons, List.append_assoc, List.cons_append, List.nil_append]
      rw [show o + 1 + r.length = o + (r.length + 1) by omega]
    rw [← e]; exact h1

/-- The slice v, of n elements of 'size' cells each, has the cells xs, in a block of its own (from block number 'base' on). -/
def Row (w : World) (base : Nat) (e : TypeId) (size : Nat) (v : Value) (n : Nat) (xs : List Value) : Prop :=
  xs.length = n * size ∧
  ((v = .slice none 0 0 ∧ n = 0) ∨
   ∃ g cap cur, v = .slice (some ⟨g, 0, none⟩) n cap ∧ base ≤ g ∧ BlkM w g e cur ∧ n ≤ cap ∧ cap ≤ maxLen ∧ cur.length = cap * size ∧ cur.take (n * size) = xs)
section
variable {w : World} {base : Nat} {e : TypeId} {size : Nat} {v : Value} {n : Nat} {xs : List Value}
theorem World.ownsRow.row (h : w.ownsRow base e size v n xs) : Row w base e size v n xs := by
  refine ⟨h.1, ?_⟩
  rcases h.2 with hn | ⟨g, cap, cur, rfl, hb, hg, hc, hm, hsz, ht⟩
  · exact .inl hn
  · exact .inr ⟨g, cap, cur.toList, rfl, hb, (show Blk w g e cur.toList by unfold Blk; simpa using hg).marked, hc, hm, by simpa using hsz, ht⟩
theorem Row.nil (w : World) (base : Nat) (e : TypeId) (size : Nat) : Row w base e size (.slice none 0 0) 0 [] := (World.ownsRow_nil w base e size).row
theorem Row.mono {base' : Nat} (h : Row w base e size v n xs) (hb : base' ≤ base) : Row w base' e size v n xs := by
  refine ⟨h.1, ?_⟩
  rcases h.2 with hn | ⟨g, cap, cur, rfl, hg, r⟩
  · exact .inl hn
  · exact .inr ⟨g, cap, cur, rfl, Nat.le_trans hb hg, r⟩
theorem Row.kept {w' : World} {row : Option Nat} (h : Row w base e size v n xs) (hg : w.grownBy w' row) (hne : v.ownBlock = none ∨ v.ownBlock ≠ row) : Row w' base e size v n xs := by
  refine ⟨h.1, ?_⟩
  rcases h.2 with hn | ⟨g, cap, cur, rfl, hb, hgg, r⟩
  · exact .inl hn
  · exact .inr ⟨g, cap, cur, rfl, hb, hgg.grown hg (by simpa [Value.ownBlock] using hne), r⟩
theorem Row.alloc (h : Row w base e size v n xs) (o : Obj) : Row (w.alloc o) base e size v n xs := h.kept (World.grownBy_alloc w o none) (by cases hv : v.ownBlock <;> simp)
theorem Row.drewN (h : Row w base e size v n xs) (m : Nat) : Row (w.drewN m) base e size v n xs := h
theorem Row.lt (h : Row w base e size v n xs) : ∀ k, v.ownBlock = some k → base ≤ k ∧ k < w.heap.size := by
  intro k hk
  rcases h.2 with ⟨rfl, _⟩ | ⟨g, cap, cur, rfl, hb, hg, _⟩
  · simp [Value.ownBlock] at hk
  · simp [Value.ownBlock] at hk
    subst hk
    exact ⟨hb, hg.lt⟩
theorem Row.open (h : Row w base e size v n xs) (hn : 0 < n) : ∃ g cap cur, v = .slice (some ⟨g, 0, none⟩) n cap ∧ base ≤ g ∧ BlkM w g e cur ∧ n ≤ cap ∧ cap ≤ maxLen ∧ cur.length = cap * size ∧ cur.take (n * size) = xs := by
  rcases h.2 with ⟨_, h0⟩ | h
  · omega
  · exact h

theorem run_append_row {P : Program} (t ty : TypeId) (i : TypeInfo) (z : Value) (bytes : Nat) (ht : P.underlying t = some (.slice e)) (hi : P.info? e = some i) (hz : i.zero = some z)
    (hsize : i.size = size) (hby : i.bytes = bytes) (hzs : z.cells.size = size) (hsz : 0 < size) (hown : Row w base e size v n xs)
    (a : Addr) (m c : Nat) (news : List Value) (hl : news.length = m * size) (hnews : ∀ j u, news[j]? = some u → w.cell? (a.add j) = some u) (h1 : ∀ u ∈ news, u.oneCell' = true)
    (h63 : n + m ≤ maxLen) (hbytes : (n + m) * bytes ≤ 140737488355328) (hbase : base ≤ w.heap.size) :
    ∃ v' w', (Builtin.append_ #[t, t] ty #[v, .slice (some a) m c]).run P w = .ok v' w' ∧ Row w' base e size v' (n + m) (xs ++ news) ∧ w.grownBy w' v.ownBlock ∧
      (v'.ownBlock = v.ownBlock ∨ ∃ g, v'.ownBlock = some g ∧ w.heap.size ≤ g) := by
  have hlen : (xs ++ news).length = (n + m) * size := by rw [List.length_append, hown.1, hl, Nat.add_mul]
  rcases hown.2 with ⟨rfl, rfl⟩ | ⟨g, cap, cur, rfl, hb, hg, hc, hm, hcl, htk⟩
  · obtain rfl : xs = [] := List.eq_nil_of_length_eq_zero (by simpa using hown.1)
    obtain ⟨v', w', hr, ho, hgr, _, hat⟩ := run_append_own_at (P := P) w base t ty e i z size bytes ht hi hz hsize hby hzs hsz (.slice none 0 0) 0 [] (World.ownsRow_nil _ _ _ _) a m c news hl hnews h1 h63 hbytes hbase
    exact ⟨v', w', hr, ho.row, hgr, hat.imp id fun h => ⟨_, h, Nat.le_refl _⟩⟩
  · by_cases hroom : n + m ≤ cap
    · have hfit : n * size + news.length ≤ cur.length := by
        rw [hl, hcl, ← Nat.add_mul]; exact Nat.mul_le_mul_right _ hroom
      have hr := run_append_room_cells (P := P) w t ty e i ht hi g 0 n cap a m c news (by rw [hsize]; exact hl) hnews h1 hroom
        (fun j hj => by rw [hg.cell (i := 0 + n * i.size + j) (List.getElem?_eq_getElem (by rw [hsize]; omega))]; rfl)
        (fun j hj => hg.frozen (by rw [hsize]; omega))
      rw [hsize, Nat.zero_add] at hr
      refine ⟨_, _, hr, ⟨hlen, .inr ⟨g, cap, _, rfl, hb, BlkM.setCells_same news cur (n * size) w hg hfit, hroom, hm, ?_, ?_⟩⟩, World.grownBy.setCells _ _ _ (World.grownBy.refl w _), .inl rfl⟩
      · unfold laidOver; simp; omega
      · unfold laidOver
        rw [htk, List.take_append_of_le_length (by rw [hlen]; exact Nat.le_refl _), List.take_of_length_le (by rw [hlen]; exact Nat.le_refl _)]
    · obtain ⟨v', w', hr, ho, hgr⟩ := run_append_arg_grows (P := P) w t ty e i z size bytes ht hi hz hsize hby hzs hsz ⟨g, 0, none⟩ n cap xs hown.1
        (fun j u hu => by
          rw [Addr.add_mid, Nat.zero_add]
          refine hg.cell ?_
          rw [← htk, List.getElem?_take] at hu
          split at hu
          · exact hu
          · cases hu) a m c news hl hnews (by omega) h63 hbytes
      refine ⟨v', w', hr, ho.row.mono hbase, ⟨hgr.os, hgr.tape, hgr.output, hgr.size, fun k hk _ => hgr.block k hk (by simp)⟩, ?_⟩
      cases hv : v'.ownBlock with
      | none => exact .inl (by
          rcases ho.2 with ⟨rfl, h0⟩ | ⟨g', _, _, rfl, _⟩
          · simp at h0; omega
          · simp [Value.ownBlock] at hv)
      | some k => exact .inr ⟨k, rfl, (ho.lt k hv).1⟩
end

theorem wp_append_row {P : Program} {w : World} {base : Nat} {e : TypeId} {size : Nat} {o : Oper} {a : Act} {K : Act → World → Prop} {Q : Exit → Act → World → Prop} (s x : Operand) (t : TypeId)
    (ho : o.op = .call { callee := .builtin .append, args := #[s, x], argTypes := #[t, t] }) (i : TypeInfo) (z : Value) (bytes : Nat) (ht : P.underlying t = some (.slice e)) (hi : P.info? e = some i) (hz : i.zero = some z)
    (hsize : i.size = size) (hby : i.bytes = bytes) (hzs : z.cells.size = size) (hsz : 0 < size) (v : Value) (n : Nat) (xs : List Value) (hs : a.eval s = v) (hown : Row w base e size v n xs)
    (ad : Addr) (m c : Nat) (news : List Value) (hx : a.eval x = .slice (some ad) m c) (hl : news.length = m * size) (hnews : ∀ j u, news[j]? = some u → w.cell? (ad.add j) = some u) (h1 : ∀ u ∈ news, u.oneCell' = true)
    (h63 : n + m ≤ maxLen) (hbytes : (n + m) * bytes ≤ 140737488355328) (hbase : base ≤ w.heap.size)
    (h : ∀ v' w', Row w' base e size v' (n + m) (xs ++ news) → w.grownBy w' v.ownBlock → (v'.ownBlock = v.ownBlock ∨ ∃ g, v'.ownBlock = some g ∧ w.heap.size ≤ g) → K (a.put o.dst v') w') : o.wp P a w K Q := by
  obtain ⟨v', w', hr, h2, h3, h4⟩ := run_append_row (P := P) t o.type i z bytes ht hi hz hsize hby hzs hsz hown ad m c news hl hnews h1 h63 hbytes hbase
  unfold Oper.wp execOp
  simp only [ho, resolve, invoke, builtin, Sem.run_bind, Sem.run_pure, Result.andThen_ok, List.map_toArray, List.map_cons, List.map_nil, hs, hx, hr]
  exact h v' w' h2 h3 h4
end Go
namespace Go.Proofs.Ytpogfcfgbnccjab
open Go.RowKit

def u8L (l : List UInt8) : List Value := l.map fun x : UInt8 => Value.int .u8 ((x.toNat : Nat) : Int)
theorem u8L_append (l m : List UInt8) : u8L (l ++ m) = u8L l ++ u8L m := by simp [u8L]
theorem u8L_one (l : List UInt8) : ∀ v ∈ u8L l, v.oneCell' = true := by
  intro v hv
  obtain ⟨x, _, rfl⟩ := List.mem_map.1 hv
  rfl
theorem infoU8 : (Try.prog.info? 5).map (fun i => (i.zero, i.size, i.bytes)) = some (some (.int .u8 0), 1, 1) := by kernel_rfl

/-- append(s, x...) of bytes that lie somewhere. -/
theorem wpList_append_u8 {ops : Array Oper} {rest : List Oper} {o : Oper} {a : Act} {w : World} {Q : Exit → Act → World → Prop} (hgd : o.guard = none) (s x : Operand)
    (ho : o.op = .call { callee := .builtin .append, args := #[s, x], argTypes := #[33, 33] })
    (base : Nat) (v : Value) (n : Nat) (xs : List UInt8) (hs : a.eval s = v) (hown : Row w base 5 1 v n (u8L xs))
    (ad : Addr) (m c : Nat) (news : List UInt8) (hx : a.eval x = .slice (some ad) m c) (hl : news.length = m) (hnew : ∀ j u, (u8L news)[j]? = some u → w.cell? (ad.add j) = some u) (hn : n + m ≤ 1099511627776) (hbase : base ≤ w.heap.size)
    (h : ∀ v' w', Row w' base 5 1 v' (n + m) (u8L (xs ++ news)) → w.grownBy w' v.ownBlock → (v'.ownBlock = v.ownBlock ∨ ∃ g, v'.ownBlock = some g ∧ w.heap.size ≤ g) → wpList Try.prog ops Q rest (a.put o.dst v') w') : wpList Try.prog ops Q (o :: rest) a w := by
  obtain ⟨i0, hi, hz0, hz1, hz2⟩ := info_parts infoU8
  refine wpList_plain hgd fun _ hK => ?_
  refine wp_append_row s x 33 ho i0 (.int .u8 0) 1 Try.underlying33 hi hz0 hz1 hz2 rfl (by decide) v n (u8L xs) hs hown ad m c (u8L news) hx (by simp [u8L, hl]) hnew (u8L_one _) ?_ ?_ hbase ?_
  · unfold maxLen; omega
  · omega
  · intro v' w' h1 h2 h3
    exact hK _ _ (h v' w' (by rw [u8L_append]; exact h1) h2 h3)

theorem one_news {w : World} {g : Nat} {x : UInt8} {v : Int} (hv : v = (x.toNat : Nat)) (h : w.cell? ⟨g, 0, none⟩ = some (.int .u8 v)) : ∀ j u, (u8L [x])[j]? = some u → w.cell? ((⟨g, 0, none⟩ : Addr).add j) = some u := by
  intro j u hj
  match j, hj with
  | 0, hj => simp [u8L] at hj; subst hj; subst hv; rw [Addr.add_mid]; exact h
end Go.Proofs.Ytpogfcfgbnccjab
namespace Go.Proofs.Ytpogfcfgbnccjab
open Go.RowKit

/-- The slice v reads as the texts l. -/
def Strs (w : World) (v : Value) (l : List ByteArray) : Prop :=
  (l = [] ∧ ∃ ao c, v = .slice ao 0 c) ∨ ∃ g o c, v = .slice (some ⟨g, o, none⟩) l.length c ∧ ∀ i x, l[i]? = some x → w.cell? ⟨g, o + i, none⟩ = some (.string x)

theorem infoStr : (Try.prog.info? 9).map (fun i => (i.zero, i.size, i.bytes)) = some (some (.string ByteArray.empty), 1, 16) := by kernel_rfl
def strV (l : List ByteArray) : List Value := l.map fun x => Value.string x
end Go.Proofs.Ytpogfcfgbnccjab
namespace Go.Proofs.Ytpogfcfgbnccjab
open Go.RowKit

theorem byte_at (s : ByteArray) (i : Nat) (h : i < s.size) : s[i] = s.data.toList.getD i 0 := by
  have h2 : i < s.data.toList.length := by rw [Array.length_toList]; exact h
  rw [List.getD_eq_getElem?_getD, List.getElem?_eq_getElem h2, Array.getElem_toList]
  rfl

end Go.Proofs.Ytpogfcfgbnccjab
namespace Go.Proofs.Ytpogfcfgbnccjab
open Go.RowKit

theorem extract_list (P : List UInt8) (a b : Nat) : (ByteArray.extract ⟨P.toArray⟩ a b).data.toList = (P.drop a).take (b - a) := by
  rw [ByteArray.data_extract]
  simp
end Go.Proofs.Ytpogfcfgbnccjab
namespace Go.Proofs.Ytpogfcfgbnccjab
open Go.RowKit

namespace Pol
end Pol

theorem sub_list (a : ByteArray) (i j : Nat) : (a.extract i j).data.toList = (a.data.toList.drop i).take (j - i) := by
  conv => lhs; rw [show a = ⟨a.data.toList.toArray⟩ by simp]
  exact extract_list _ i j
end Go.Proofs.Ytpogfcfgbnccjab
namespace Go.Proofs.Ytpogfcfgbnccjab
open Go.RowKit

theorem Row.strAny {w : World} {base : Nat} {l : List UInt8} {v : Value} {n : Nat} (h : Row w base 5 1 v n (u8L l)) : ∃ ao cap, v = .slice ao n cap ∧ n ≤ cap ∧ cap ≤ maxLen ∧ (convert 33 9 v).run Try.prog w = .ok (.string ⟨l.toArray⟩) w := by
  have hl : l.length = n := by have := h.1; simpa [u8L] using this
  rcases Nat.eq_zero_or_pos n with h0 | h0
  · subst h0
    obtain rfl : l = [] := List.eq_nil_of_length_eq_zero hl
    rcases h.2 with ⟨rfl, _⟩ | ⟨g, cap, cur, rfl, _, _, _, hc, _⟩
    · refine ⟨none, 0, rfl, Nat.le_refl _, by decide, ?_⟩
      rw [run_convert_bytes_string w 33 9 5 none 0 0 Try.underlying33 Try.underlying5 Try.underlying9]
      rfl
    · exact ⟨_, cap, rfl, Nat.zero_le _, hc, run_convert_bytes_back (P := Try.prog) w 33 9 5 ⟨g, 0, none⟩ cap [] Try.underlying33 Try.underlying5 Try.underlying9 (fun j hj => absurd hj (Nat.not_lt_zero _))⟩
  · obtain ⟨g, cap, cur, rfl, _, hB, hc1, hc2, _, htk⟩ := h.open h0
    refine ⟨_, cap, rfl, hc1, hc2, ?_⟩
    rw [← hl]
    refine run_convert_bytes_back w 33 9 5 ⟨g, 0, none⟩ cap l Try.underlying33 Try.underlying5 Try.underlying9 (fun j hj => ?_)
    rw [Addr.add_mid, Nat.zero_add]
    exact hB.cell (take_at htk (by simp [u8L, hj]))

namespace Box
end Box

end Go.Proofs.Ytpogfcfgbnccjab
namespace Go.Proofs.Ytpogfcfgbnccjab
open Go.RowKit

theorem ba_size (l : List UInt8) : (⟨l.toArray⟩ : ByteArray).size = l.length := List.size_toArray

end Go.Proofs.Ytpogfcfgbnccjab
namespace Go.Proofs.Ytpogfcfgbnccjab
open Go.RowKit

theorem ba_list (a b : ByteArray) : (a ++ b).data.toList = a.data.toList ++ b.data.toList := by simp [ByteArray.data_append]
theorem ba_len (a : ByteArray) : a.data.toList.length = a.size := by rw [Array.length_toList]; rfl
end Go.Proofs.Ytpogfcfgbnccjab
namespace Go.Proofs.Ytpogfcfgbnccjab
open Go.RowKit

theorem ba_ext {a b : ByteArray} (h : a.data.toList = b.data.toList) : a = b := ByteArray.ext (Array.toList_inj.1 h)
end Go.Proofs.Ytpogfcfgbnccjab
namespace Go.Proofs.Ytpogfcfgbnccjab
open Go.RowKit

namespace B64
/-- The bits of a number, the highest first. -/
def bitsN (x : Nat) : Nat → List Nat
  | 0 => []
  | k + 1 => bitsN x k ++ [x / (128 / 2 ^ k) % 2]
def bits8 (b : UInt8) : List Nat := bitsN b.toNat 8
def bitsL (l : List UInt8) : List Nat := l.flatMap bits8
theorem bitsN_len (x : Nat) : ∀ k, (bitsN x k).length = k
  | 0 => rfl
  | k + 1 => by rw [bitsN, List.length_append, bitsN_len x k]; rfl
theorem bitsL_len : ∀ l : List UInt8, (bitsL l).length = 8 * l.length
  | [] => rfl
  | b :: r => by
    have h := bitsL_len r
    unfold bitsL at h ⊢
    rw [List.flatMap_cons, List.length_append, h, bits8, bitsN_len, List.length_cons]
    omega
end B64

end Go.Proofs.Ytpogfcfgbnccjab
namespace Go.Proofs.Ytpogfcfgbnccjab
open Go.RowKit
namespace B64
def letters : List UInt8 := [65, 66, 67, 68, 69, 70, 71, 72, 73, 74, 75, 76, 77, 78, 79, 80, 81, 82, 83, 84, 85, 86, 87, 88, 89, 90, 97, 98, 99, 100, 101, 102, 103, 104, 105, 106, 107, 108, 109, 110, 111, 112, 113, 114, 115, 116, 117, 118, 119, 120, 121, 122, 48, 49, 50, 51, 52, 53, 54, 55, 56, 57, 43, 47]
def letter (v : Nat) : UInt8 := letters.getD v 0
def gap (m : Nat) : Nat := (6 - m % 6) % 6
/-- The bits, with noughts behind the last. -/
def bits6 (l : List UInt8) : List Nat := bitsL l ++ List.replicate (gap (8 * l.length)) 0
/-- What k bits from place i on say. -/
def val (P : List Nat) (i : Nat) : Nat → Nat
  | 0 => 0
  | k + 1 => 2 * val P i k + P.getD (i + k) 0
def encN (P : List Nat) (k : Nat) : List UInt8 := (List.range k).map fun j => letter (val P (6 * j) 6)
def enc (l : List UInt8) : List UInt8 := encN (bits6 l) ((bits6 l).length / 6)
theorem encN_succ (P : List Nat) (k : Nat) : encN P (k + 1) = encN P k ++ [letter (val P (6 * k) 6)] := by simp [encN, List.range_succ]
theorem gap_end (m : Nat) : (m + gap m) % 6 = 0 := by unfold gap; omega
theorem gap_lt (m : Nat) : gap m < 6 := by unfold gap; omega
theorem bitsN_bit (x : Nat) : ∀ (k : Nat), ∀ b ∈ bitsN x k, b < 2
  | 0, b, h => by cases h
  | k + 1, b, h => by
    rw [bitsN] at h
    rcases List.mem_append.1 h with h | h
    · exact bitsN_bit x k b h
    · rw [List.mem_singleton.1 h]; exact Nat.mod_lt _ (by decide)
theorem bits6_bit (l : List UInt8) : ∀ b ∈ bits6 l, b < 2 := by
  intro b h
  rcases List.mem_append.1 h with h | h
  · obtain ⟨x, _, hx⟩ := List.mem_flatMap.1 h
    exact bitsN_bit _ _ b hx
  · rw [(List.mem_replicate.1 h).2]; decide
theorem bits6_len (l : List UInt8) : (bits6 l).length = 8 * l.length + gap (8 * l.length) := by
  unfold bits6
  rw [List.length_append, bitsL_len, List.length_replicate]
theorem getD_bit {P : List Nat} (h : ∀ b ∈ P, b < 2) (i : Nat) : P.getD i 0 < 2 := by
  rw [List.getD_eq_getElem?_getD]
  cases hi : P[i]? with
  | none => decide
  | some b => exact h b (List.mem_of_getElem? hi)
theorem val_lt {P : List Nat} (h : ∀ b ∈ P, b < 2) (i : Nat) : ∀ k, val P i k < 2 ^ k
  | 0 => by rw [val]; decide
  | k + 1 => by
    have h1 := val_lt h i k
    have h2 := getD_bit h (i + k)
    rw [val, Nat.pow_succ]
    omega
end B64
theorem Row.anyN {w : World} {base : Nat} {e : TypeId} {size : Nat} {v : Value} {n : Nat} {xs : List Value} (hr : Row w base e size v n xs) : ∃ ao cap, v = .slice ao n cap ∧ n ≤ cap ∧ cap ≤ maxLen := by
  rcases hr.2 with ⟨rfl, h0⟩ | ⟨g, cap, cur, rfl, _, _, hc, hm, _⟩
  · exact ⟨none, 0, by rw [h0], by omega, by decide⟩
  · exact ⟨_, _, rfl, hc, hm⟩

end Go.Proofs.Ytpogfcfgbnccjab
namespace Go.Proofs.Ytpogfcfgbnccjab
open Go.RowKit
namespace B64
/-- The place of letter c; 64: it is none. -/
def place (c : UInt8) : Nat := letters.idxOf c
theorem place_letter (v : Nat) (h : v < 64) : place (letter v) = v := by
  have hall : ∀ v : Fin 64, place (letter v.val) = v.val := by decide +kernel
  exact hall ⟨v, h⟩
theorem letter_place (c : UInt8) (h : place c < 64) : letter (place c) = c := by
  have h1 : place c < letters.length := h
  unfold letter
  rw [List.getD_eq_getElem?_getD, List.getElem?_eq_getElem h1]
  exact List.getElem_idxOf h1
theorem place_le (c : UInt8) : place c ≤ 64 := by
  have : place c ≤ letters.length := List.idxOf_le_length
  exact this
end B64
theorem letter_at (i : Nat) (h : i < (⟨#[65, 66, 67, 68, 69, 70, 71, 72, 73, 74, 75, 76, 77, 78, 79, 80, 81, 82, 83, 84, 85, 86, 87, 88, 89, 90, 97, 98, 99, 100, 101, 102, 103, 104, 105, 106, 107, 108, 109, 110, 111, 112, 113, 114, 115, 116, 117, 118, 119, 120, 121, 122, 48, 49, 50, 51, 52, 53, 54, 55, 56, 57, 43, 47]⟩ : ByteArray).size) : ((⟨#[65, 66, 67, 68, 69, 70, 71, 72, 73, 74, 75, 76, 77, 78, 79, 80, 81, 82, 83, 84, 85, 86, 87, 88, 89, 90, 97, 98, 99, 100, 101, 102, 103, 104, 105, 106, 107, 108, 109, 110, 111, 112, 113, 114, 115, 116, 117, 118, 119, 120, 121, 122, 48, 49, 50, 51, 52, 53, 54, 55, 56, 57, 43, 47]⟩ : ByteArray)[i]'h) = B64.letter i := by
  rw [byte_at]
  rfl

end Go.Proofs.Ytpogfcfgbnccjab
namespace Go.Proofs.Ytpogfcfgbnccjab
open Go.RowKit
namespace B64
def bitsM (x : Nat) : Nat → List Nat
  | 0 => []
  | k + 1 => bitsM x k ++ [x / (32 / 2 ^ k) % 2]
def bitsT (t : List UInt8) : List Nat := t.flatMap fun c => bitsM (place c) 6
def decN (P : List Nat) (k : Nat) : List UInt8 := (List.range k).map fun j => UInt8.ofNat (val P (8 * j) 8)
def dec (t : List UInt8) : List UInt8 := decN (bitsT t) ((bitsT t).length / 8)
/-- What Decode answers. -/
def decAns (t : List UInt8) : List UInt8 × Int := if enc (dec t) = t then (dec t, 0) else ([], 5)
theorem bitsM_len (x : Nat) : ∀ k, (bitsM x k).length = k
  | 0 => rfl
  | k + 1 => by rw [bitsM, List.length_append, bitsM_len x k]; rfl
theorem bitsT_len : ∀ l : List UInt8, (bitsT l).length = 6 * l.length
  | [] => rfl
  | b :: r => by
    have h := bitsT_len r
    unfold bitsT at h ⊢
    rw [List.flatMap_cons, List.length_append, h, bitsM_len, List.length_cons]
    omega
theorem bitsM_bit (x : Nat) : ∀ (k : Nat), ∀ b ∈ bitsM x k, b < 2
  | 0, b, h => by cases h
  | k + 1, b, h => by
    rw [bitsM] at h
    rcases List.mem_append.1 h with h | h
    · exact bitsM_bit x k b h
    · rw [List.mem_singleton.1 h]; exact Nat.mod_lt _ (by decide)
theorem bitsT_bit (l : List UInt8) : ∀ b ∈ bitsT l, b < 2 := by
  intro b h
  obtain ⟨x, _, hx⟩ := List.mem_flatMap.1 h
  exact bitsM_bit _ _ b hx
theorem decN_succ (P : List Nat) (k : Nat) : decN P (k + 1) = decN P k ++ [UInt8.ofNat (val P (8 * k) 8)] := by simp [decN, List.range_succ]
theorem enc_letters (l : List UInt8) : ∀ c ∈ enc l, place c < 64 := by
  intro c h
  obtain ⟨j, _, rfl⟩ := List.mem_map.1 h
  have hv := val_lt (bits6_bit l) (6 * j) 6
  rw [place_letter _ hv]
  exact hv
/-- A letter that is none: nothing's base64. -/
theorem decAns_bad (t : List UInt8) (c : UInt8) (hc : c ∈ t) (h : ¬ place c < 64) : decAns t = ([], 5) := by
  unfold decAns
  rw [if_neg]
  intro e
  rw [← e] at hc
  exact h (enc_letters _ c hc)
end B64

end Go.Proofs.Ytpogfcfgbnccjab
namespace Go.Proofs.Ytpogfcfgbnccjab
open Go.RowKit
namespace B64
theorem val_split (P : List Nat) (i a : Nat) : ∀ b, val P i (a + b) = val P i a * 2 ^ b + val P (i + a) b
  | 0 => by rw [Nat.pow_zero, Nat.mul_one]; rfl
  | b + 1 => by
    rw [show a + (b + 1) = (a + b) + 1 by omega, val, val_split P i a b, val, Nat.pow_succ, Nat.add_assoc i a b, Nat.mul_add, ← Nat.mul_assoc (val P i a), Nat.mul_comm (val P i a * 2 ^ b) 2]
    omega
theorem val_congr (P Q : List Nat) (i j : Nat) : ∀ n, (∀ k, k < n → P.getD (i + k) 0 = Q.getD (j + k) 0) → val P i n = val Q j n
  | 0, _ => rfl
  | n + 1, h => by rw [val, val, val_congr P Q i j n (fun k hk => h k (by omega)), h n (by omega)]
theorem top_bits (x n k : Nat) (hk : k < n) : x / 2 ^ (n - 1 - k) = 2 * (x / 2 ^ (n - k)) + x / 2 ^ (n - 1 - k) % 2 := by
  have e : n - k = (n - 1 - k) + 1 := by omega
  rw [e, Nat.pow_succ, ← Nat.div_div_eq_div_mul]
  omega
/-- The bits of a number make the number. -/
theorem val_of_bits (P : List Nat) (i n x : Nat) (h : ∀ k, k < n → P.getD (i + k) 0 = x / 2 ^ (n - 1 - k) % 2) (hx : x < 2 ^ n) : val P i n = x := by
  have key : ∀ k, k ≤ n → val P i k = x / 2 ^ (n - k) := by
    intro k
    induction k with
    | zero => intro _; rw [Nat.sub_zero, Nat.div_eq_of_lt hx]; rfl
    | succ k ih =>
      intro hk
      rw [val, ih (by omega), h k (by omega), show n - (k + 1) = n - 1 - k by omega]
      exact (top_bits x n k (by omega)).symm
  rw [key n (Nat.le_refl _), Nat.sub_self, Nat.pow_zero, Nat.div_one]
/-- A bit, out of the number. -/
theorem bit_of_val {P : List Nat} (hP : ∀ b ∈ P, b < 2) (i n k : Nat) (hk : k < n) : P.getD (i + k) 0 = val P i n / 2 ^ (n - 1 - k) % 2 := by
  obtain ⟨r, rfl⟩ : ∃ r, n = k + 1 + r := ⟨n - (k + 1), by omega⟩
  have h1 := val_split P i (k + 1) r
  have h2 := val_lt hP (i + (k + 1)) r
  have h3 := getD_bit hP (i + k)
  rw [h1, show k + 1 + r - 1 - k = r by omega, Nat.mul_comm, Nat.mul_add_div (Nat.two_pow_pos r), Nat.div_eq_of_lt h2, Nat.add_zero, val]
  omega
theorem dn_pow (k : Nat) (h : k < 8) : 128 / 2 ^ k = 2 ^ (8 - 1 - k) :=
  match k, h with
  | 0, _ => by decide
  | 1, _ => by decide
  | 2, _ => by decide
  | 3, _ => by decide
  | 4, _ => by decide
  | 5, _ => by decide
  | 6, _ => by decide
  | 7, _ => by decide
  | n + 8, h => absurd h (by omega)
theorem dm_pow (k : Nat) (h : k < 6) : 32 / 2 ^ k = 2 ^ (6 - 1 - k) :=
  match k, h with
  | 0, _ => by decide
  | 1, _ => by decide
  | 2, _ => by decide
  | 3, _ => by decide
  | 4, _ => by decide
  | 5, _ => by decide
  | n + 6, h => absurd h (by omega)
theorem bitsN_at (x : Nat) : ∀ n k, k < n → n ≤ 8 → (bitsN x n).getD k 0 = x / 2 ^ (8 - 1 - k) % 2
  | 0, k, h, _ => absurd h (by omega)
  | n + 1, k, h, h8 => by
    rw [bitsN, List.getD_eq_getElem?_getD]
    rcases Nat.lt_or_ge k n with hk | hk
    · rw [List.getElem?_append_left (by rw [bitsN_len]; exact hk), ← List.getD_eq_getElem?_getD, bitsN_at x n k hk (by omega)]
    · obtain rfl : k = n := by omega
      rw [List.getElem?_append_right (by rw [bitsN_len]; exact Nat.le_refl _), bitsN_len, Nat.sub_self, dn_pow k (by omega)]
      rfl
theorem bitsM_at (x : Nat) : ∀ n k, k < n → n ≤ 6 → (bitsM x n).getD k 0 = x / 2 ^ (6 - 1 - k) % 2
  | 0, k, h, _ => absurd h (by omega)
  | n + 1, k, h, h8 => by
    rw [bitsM, List.getD_eq_getElem?_getD]
    rcases Nat.lt_or_ge k n with hk | hk
    · rw [List.getElem?_append_left (by rw [bitsM_len]; exact hk), ← List.getD_eq_getElem?_getD, bitsM_at x n k hk (by omega)]
    · obtain rfl : k = n := by omega
      rw [List.getElem?_append_right (by rw [bitsM_len]; exact Nat.le_refl _), bitsM_len, Nat.sub_self, dm_pow k (by omega)]
      rfl
/-- A place in a list of equal parts. -/
theorem flat_at {α : Type} (f : α → List Nat) (m : Nat) (hf : ∀ a, (f a).length = m) : ∀ (l : List α) (i k : Nat) (hi : i < l.length), k < m → (l.flatMap f).getD (m * i + k) 0 = (f l[i]).getD k 0
  | [], i, k, hi, _ => absurd hi (by simp)
  | a :: r, 0, k, _, hk => by
    rw [List.flatMap_cons, List.getD_eq_getElem?_getD, Nat.mul_zero, Nat.zero_add, List.getElem?_append_left (by rw [hf]; exact hk), ← List.getD_eq_getElem?_getD]
    rfl
  | a :: r, i + 1, k, hi, hk => by
    have h := flat_at f m hf r i k (by simpa using hi) hk
    rw [List.flatMap_cons, List.getD_eq_getElem?_getD, List.getElem?_append_right (by rw [hf, Nat.mul_add]; omega), hf, show m * (i + 1) + k - m = m * i + k by rw [Nat.mul_add]; omega, ← List.getD_eq_getElem?_getD, h]
    rfl
theorem bitsL_at (l : List UInt8) (i k : Nat) (hi : i < l.length) (hk : k < 8) : (bitsL l).getD (8 * i + k) 0 = l[i].toNat / 2 ^ (8 - 1 - k) % 2 := by
  unfold bitsL
  rw [flat_at bits8 8 (fun a => bitsN_len _ _) l i k hi hk, bits8, bitsN_at _ 8 k hk (Nat.le_refl _)]
theorem bitsT_at (l : List UInt8) (i k : Nat) (hi : i < l.length) (hk : k < 6) : (bitsT l).getD (6 * i + k) 0 = place l[i] / 2 ^ (6 - 1 - k) % 2 := by
  unfold bitsT
  rw [flat_at (fun c => bitsM (place c) 6) 6 (fun a => bitsM_len _ _) l i k hi hk, bitsM_at _ 6 k hk (Nat.le_refl _)]
theorem bits6_at (l : List UInt8) (i : Nat) (hi : i < 8 * l.length) : (bits6 l).getD i 0 = (bitsL l).getD i 0 := by
  unfold bits6
  rw [List.getD_eq_getElem?_getD, List.getElem?_append_left (by rw [bitsL_len]; exact hi), ← List.getD_eq_getElem?_getD]
theorem bits6_end (l : List UInt8) (i : Nat) (hi : 8 * l.length ≤ i) : (bits6 l).getD i 0 = 0 := by
  unfold bits6
  rw [List.getD_eq_getElem?_getD, List.getElem?_append_right (by rw [bitsL_len]; exact hi), List.getElem?_replicate]
  split <;> rfl
theorem val6_byte (l : List UInt8) (i : Nat) (hi : i < l.length) : val (bits6 l) (8 * i) 8 = l[i].toNat := by
  refine val_of_bits _ _ 8 _ (fun k hk => ?_) l[i].toNat_lt
  rw [bits6_at l _ (by omega), bitsL_at l i k hi hk]
theorem valT_letter (t : List UInt8) (i : Nat) (hi : i < t.length) (hp : place t[i] < 64) : val (bitsT t) (6 * i) 6 = place t[i] := by
  refine val_of_bits _ _ 6 _ (fun k hk => ?_) hp
  rw [bitsT_at t i k hi hk]
theorem enc_length (l : List UInt8) : (enc l).length = (8 * l.length + gap (8 * l.length)) / 6 := by
  unfold enc encN
  rw [List.length_map, List.length_range, bits6_len]
theorem enc_at (l : List UInt8) (j : Nat) (hj : j < (enc l).length) : (enc l)[j] = letter (val (bits6 l) (6 * j) 6) := by
  show (encN (bits6 l) ((bits6 l).length / 6))[j]'hj = _
  exact (List.getElem_map _).trans (congrArg _ (by rw [List.getElem_range]))
/-- The bits of the base64 are the text's. -/
theorem bits_enc (l : List UInt8) : bitsT (enc l) = bits6 l := by
  have hl : (bitsT (enc l)).length = (bits6 l).length := by
    have h := gap_end (8 * l.length)
    rw [bitsT_len, enc_length, bits6_len]
    omega
  refine List.ext_getElem hl fun n h1 h2 => ?_
  have e1 : (bitsT (enc l))[n] = (bitsT (enc l)).getD n 0 := by rw [List.getD_eq_getElem?_getD, List.getElem?_eq_getElem h1]; rfl
  have e2 : (bits6 l)[n] = (bits6 l).getD n 0 := by rw [List.getD_eq_getElem?_getD, List.getElem?_eq_getElem h2]; rfl
  have hn : n = 6 * (n / 6) + n % 6 := by omega
  have hj : n / 6 < (enc l).length := by rw [bitsT_len] at h1; omega
  have hk : n % 6 < 6 := Nat.mod_lt _ (by decide)
  have hv := val_lt (bits6_bit l) (6 * (n / 6)) 6
  rw [e1, e2, hn, bitsT_at (enc l) (n / 6) (n % 6) hj hk, enc_at, place_letter _ hv]
  exact (bit_of_val (bits6_bit l) (6 * (n / 6)) 6 (n % 6) hk).symm
/-- What was encoded is decoded. -/
theorem dec_enc (l : List UInt8) : dec (enc l) = l := by
  unfold dec
  rw [bits_enc, bits6_len]
  have hg := gap_lt (8 * l.length)
  have hn : (8 * l.length + gap (8 * l.length)) / 8 = l.length := by omega
  rw [hn]
  unfold decN
  refine List.ext_getElem (by simp) fun n h1 h2 => ?_
  rw [List.getElem_map, List.getElem_range, val6_byte l n h2]
  simp
theorem decAns_enc (l : List UInt8) : decAns (enc l) = (l, 0) := by
  unfold decAns
  rw [dec_enc, if_pos rfl]
theorem decAns_ok {t l : List UInt8} (h : decAns t = (l, 0)) : enc l = t := by
  unfold decAns at h
  split at h
  · rename_i e
    injection h with h1 h2
    rw [← h1]; exact e
  · injection h with h1 h2
    exact absurd h2 (by decide)
theorem dec_length (t : List UInt8) : (dec t).length = 6 * t.length / 8 := by
  unfold dec decN
  rw [List.length_map, List.length_range, bitsT_len]
/-- The bits of what is decoded: the letters', up to the last whole byte. -/
theorem bits_dec (t : List UInt8) (i : Nat) (hi : i < 8 * (dec t).length) : (bits6 (dec t)).getD i 0 = (bitsT t).getD i 0 := by
  have hn : i = 8 * (i / 8) + i % 8 := by omega
  have hj : i / 8 < (dec t).length := by omega
  have hk : i % 8 < 8 := Nat.mod_lt _ (by decide)
  rw [bits6_at _ i hi, hn, bitsL_at _ _ _ hj hk, bit_of_val (bitsT_bit t) (8 * (i / 8)) 8 (i % 8) hk]
  have hv := val_lt (bitsT_bit t) (8 * (i / 8)) 8
  have : (dec t)[i / 8].toNat = val (bitsT t) (8 * (i / 8)) 8 := by
    have e : (dec t)[i / 8] = UInt8.ofNat (val (bitsT t) (8 * (i / 8)) 8) := (List.getElem_map _).trans (by rw [List.getElem_range])
    rw [e]
    simp
    omega
  rw [this]
theorem val_zero (P : List Nat) (i : Nat) : ∀ n, val P i n = 0 → ∀ k, k < n → P.getD (i + k) 0 = 0
  | 0, _, k, hk => absurd hk (by omega)
  | n + 1, h, k, hk => by
    rw [val] at h
    rcases Nat.lt_succ_iff_lt_or_eq.1 hk with h' | h'
    · exact val_zero P i n (by omega) k h'
    · rw [h']; omega
/-- When t is base64 of something: no whole letter behind the last byte, and noughts. -/
theorem enc_dec (t : List UInt8) (ht : ∀ c ∈ t, place c < 64) : enc (dec t) = t ↔ 6 * t.length % 8 < 6 ∧ val (bitsT t) (8 * (6 * t.length / 8)) (6 * t.length % 8) = 0 := by
  constructor
  · intro h
    have hb : bits6 (dec t) = bitsT t := by rw [← bits_enc, h]
    have hl : (bits6 (dec t)).length = 6 * t.length := by rw [hb, bitsT_len]
    rw [bits6_len, dec_length] at hl
    have hg := gap_lt (8 * (6 * t.length / 8))
    refine ⟨by omega, ?_⟩
    refine val_of_bits _ _ _ 0 (fun k hk => ?_) (Nat.two_pow_pos _)
    rw [← hb, bits6_end _ _ (by rw [dec_length]; omega), Nat.zero_div]
  · rintro ⟨h1, h2⟩
    have hz := val_zero _ _ _ h2
    have hl : (bits6 (dec t)).length = 6 * t.length := by
      rw [bits6_len, dec_length]
      unfold gap
      omega
    have hlen : (enc (dec t)).length = t.length := by rw [enc_length, ← bits6_len, hl]; omega
    refine List.ext_getElem hlen fun n h3 h4 => ?_
    rw [enc_at]
    have hv : val (bits6 (dec t)) (6 * n) 6 = val (bitsT t) (6 * n) 6 := by
      refine val_congr _ _ _ _ 6 fun k hk => ?_
      rcases Nat.lt_or_ge (6 * n + k) (8 * (dec t).length) with h | h
      · exact bits_dec t _ h
      · rw [bits6_end _ _ h]
        rw [dec_length] at h
        have := hz (6 * n + k - 8 * (6 * t.length / 8)) (by omega)
        rw [show 8 * (6 * t.length / 8) + (6 * n + k - 8 * (6 * t.length / 8)) = 6 * n + k by omega] at this
        exact this.symm
    rw [hv, valT_letter t n h4 (ht _ (List.getElem_mem _)), letter_place _ (ht _ (List.getElem_mem _))]
end B64
end Go.Proofs.Ytpogfcfgbnccjab
namespace Go.Proofs.Ytpogfcfgbnccjab
open Go.RowKit
namespace B64
theorem push_lt (N b k : Nat) (hk : k ≤ 32) (hb : b < 2 ^ k) : N * 2 ^ k % 4294967296 = N % 2 ^ (32 - k) * 2 ^ k ∧ N * 2 ^ k % 4294967296 + b < 4294967296 := by
  have hp : 2 ^ (32 - k) * 2 ^ k = 4294967296 := by rw [← Nat.pow_add, show 32 - k + k = 32 by omega]
  have h1 : N * 2 ^ k % 4294967296 = N % 2 ^ (32 - k) * 2 ^ k := by rw [← hp, Nat.mul_mod_mul_right]
  refine ⟨h1, ?_⟩
  have h2 : N % 2 ^ (32 - k) + 1 ≤ 2 ^ (32 - k) := Nat.mod_lt _ (Nat.two_pow_pos _)
  have h3 := Nat.mul_le_mul_right (2 ^ k) h2
  rw [hp, Nat.add_mul, Nat.one_mul] at h3
  omega
theorem push_mod (N b k c : Nat) (hc : c + k ≤ 32) (hb : b < 2 ^ k) : (N * 2 ^ k % 4294967296 + b) % 2 ^ (c + k) = N % 2 ^ c * 2 ^ k + b := by
  have hd : 2 ^ (c + k) ∣ 4294967296 := ⟨2 ^ (32 - (c + k)), by rw [← Nat.pow_add, show c + k + (32 - (c + k)) = 32 by omega]⟩
  have h2 : N % 2 ^ c + 1 ≤ 2 ^ c := Nat.mod_lt _ (Nat.two_pow_pos _)
  have h3 := Nat.mul_le_mul_right (2 ^ k) h2
  rw [Nat.add_mul, Nat.one_mul, ← Nat.pow_add] at h3
  rw [Nat.add_mod, Nat.mod_mod_of_dvd _ hd, Nat.pow_add, Nat.mul_mod_mul_right, ← Nat.pow_add, Nat.mod_eq_of_lt (a := b) (Nat.lt_of_lt_of_le hb (Nat.pow_le_pow_right (by decide) (by omega))), Nat.mod_eq_of_lt (by omega)]
theorem take_top (N c j X : Nat) (h : N % 2 ^ (c + j) = X) : N / 2 ^ c % 2 ^ j = X / 2 ^ c ∧ N % 2 ^ c = X % 2 ^ c := by
  subst h
  refine ⟨?_, ?_⟩
  · rw [Nat.pow_add, Nat.mod_mul_right_div_self]
  · rw [Nat.pow_add, Nat.mod_mul_right_mod]
/-- The numbers of a step that puts k bits more behind those that wait. -/
theorem or_push (N b k : Nat) (hk : k ≤ 32) (hb : b < 2 ^ k) : bits .or .u32 (((N * 2 ^ k % 4294967296 : Nat) : Int)) (b : Int) = ((N * 2 ^ k % 4294967296 + b : Nat) : Int) := by
  obtain ⟨h1, h2⟩ := push_lt N b k hk hb
  rw [u32_or_nat _ _ (by omega) (by omega), h1, ← Nat.shiftLeft_eq, Nat.shiftLeft_add_eq_or_of_lt hb]
theorem and63 (x : Nat) (hx : x < 4294967296) : bits .and .u32 (x : Int) 63 = ((x % 64 : Nat) : Int) := by
  have h := u32_and_nat x 63 hx (by decide)
  rw [Nat.and_two_pow_sub_one_eq_mod x 6] at h
  exact h
theorem andLow (x c : Nat) (hx : x < 4294967296) (hc : c ≤ 32) : bits .and .u32 (x : Int) ((2 ^ c - 1 : Nat) : Int) = ((x % 2 ^ c : Nat) : Int) := by
  have hp : 2 ^ c ≤ 4294967296 := Nat.pow_le_pow_right (by decide) hc
  have h := u32_and_nat x (2 ^ c - 1) hx (by have := Nat.two_pow_pos c; omega)
  rw [Nat.and_two_pow_sub_one_eq_mod x c] at h
  exact h
/-- Of the bits P, q letters (or bytes) of m bits each have gone out, c bits wait at the low end of N. -/
structure Wait (P : List Nat) (m q c N : Nat) : Prop where
  lt : N < 4294967296
  low : N % 2 ^ c = val P (m * q) c
theorem Wait.start (P : List Nat) (m : Nat) : Wait P m 0 0 0 := ⟨by decide, rfl⟩
theorem Wait.push {P : List Nat} {m q c N : Nat} (h : Wait P m q c N) (k b : Nat) (hk : c + k ≤ 32) (hb : b < 2 ^ k) (hv : val P (m * q + c) k = b) : Wait P m q (c + k) (N * 2 ^ k % 4294967296 + b) :=
  ⟨(push_lt N b k (by omega) hb).2, by rw [push_mod N b k c hk hb, h.low, val_split, hv]⟩
theorem Wait.take {P : List Nat} (hP : ∀ b ∈ P, b < 2) {m q c N : Nat} (h : Wait P m q (c + m) N) : N / 2 ^ c % 2 ^ m = val P (m * q) m ∧ Wait P m (q + 1) c N := by
  obtain ⟨h1, h2⟩ := take_top N c m _ h.low
  rw [Nat.add_comm c m, val_split P (m * q) m c] at h1 h2
  have hl := val_lt hP (m * q + m) c
  rw [Nat.mul_comm, Nat.mul_add_div (Nat.two_pow_pos c), Nat.div_eq_of_lt hl, Nat.add_zero] at h1
  rw [Nat.mul_comm, Nat.mul_add_mod, Nat.mod_eq_of_lt hl] at h2
  exact ⟨h1, h.lt, h2⟩
/-- The last letter, of what is left. -/
theorem Wait.fin {l : List UInt8} {q c N : Nat} (h : Wait (bits6 l) 6 q c N) (hq : 6 * q + c = 8 * l.length) (hc : c < 6) : N * 2 ^ (6 - c) % 4294967296 % 64 = val (bits6 l) (6 * q) 6 := by
  have h1 := val_split (bits6 l) (6 * q) c (6 - c)
  have hz : val (bits6 l) (6 * q + c) (6 - c) = 0 := by
    refine val_of_bits _ _ _ 0 (fun k hk => ?_) (Nat.two_pow_pos _)
    rw [bits6_end _ _ (by omega), Nat.zero_div]
  rw [show c + (6 - c) = 6 by omega, hz, Nat.add_zero, ← h.low] at h1
  have e : (64 : Nat) = 2 ^ c * 2 ^ (6 - c) := by rw [← Nat.pow_add, show c + (6 - c) = 6 by omega]
  rw [h1, Nat.mod_mod_of_dvd _ (by decide), e, Nat.mul_mod_mul_right]
theorem enc_end0 {l : List UInt8} {q : Nat} (hq : 6 * q + 0 = 8 * l.length) : encN (bits6 l) q = enc l := by
  unfold enc
  rw [bits6_len]
  congr 1
  unfold gap
  omega
theorem enc_end1 {l : List UInt8} {q c : Nat} (hq : 6 * q + c = 8 * l.length) (hc : c < 6) (h0 : 0 < c) : encN (bits6 l) (q + 1) = enc l := by
  unfold enc
  rw [bits6_len]
  congr 1
  unfold gap
  omega
/-- What Decode answers, by what is left. -/
theorem decAns_eq {t : List UInt8} {q c N : Nat} (h : Wait (bitsT t) 8 q c N) (hq : 8 * q + c = 6 * t.length) (hc : c < 8) (ht : ∀ c ∈ t, place c < 64) : decAns t = if c < 6 ∧ N % 2 ^ c = 0 then (decN (bitsT t) q, 0) else ([], 5) := by
  have h1 := enc_dec t ht
  have e1 : 6 * t.length % 8 = c := by omega
  have e2 : 6 * t.length / 8 = q := by omega
  rw [e1, e2, ← h.low] at h1
  have e3 : dec t = decN (bitsT t) q := by unfold dec; rw [bitsT_len, e2]
  unfold decAns
  rw [e3] at h1 ⊢
  by_cases hh : enc (decN (bitsT t) q) = t
  · rw [if_pos hh, if_pos (h1.1 hh)]
  · rw [if_neg hh, if_neg (fun e => hh (h1.2 e))]
end B64
end Go.Proofs.Ytpogfcfgbnccjab
namespace Go.Proofs.Ytpogfcfgbnccjab
open Go.RowKit

set_option maxRecDepth 100000 in
set_option maxHeartbeats 1600000 in
theorem hnum_any (c : UInt8) (w : World) :
    Calls Try.prog 9 #[.int .u8 ((c.toNat : Nat) : Int)] w fun e w' => e = .returned (.int .u32 ((B64.place c : Nat) : Int)) ∧ ∃ m, w' = w.drewN m := by
  obtain ⟨R, hR⟩ : ∃ R : Nat, B64.place c = R := ⟨_, rfl⟩
  rw [hR]
  have HRR := hide hR
  clear hR
  go_enter Try.func9, Try.ntmps9
  go_wp2
  go_loopw [3] (fun i wr => ∃ j m : Nat, j ≤ 64 ∧ i = .int .i64 (j : Nat) ∧ (∀ k, k < j → B64.letter k ≠ c) ∧ wr = w.drewN m) (fun i _ => 64 - (intOf i).toNat)
  case atStart => exact ⟨0, 0, by omega, rfl, fun k h => absurd h (by omega), rfl⟩
  case round =>
    obtain ⟨j, m, hj, rfl, hno, rfl⟩ := hrel
    have HNO := hide hno
    clear hno
    by_cases hlt : j < 64
    · have jj : (j : Int) < 64 := by omega
      have hla := letter_at j hlt
      by_cases hc : B64.letter j = c
      · have hpl : B64.place c = j := by rw [← hc]; exact B64.place_letter j hlt
        have hif : (j : Int) = ((R : Nat) : Int) := by rw [← HRR.out, hpl]
        have z1 : (((B64.letter j).toNat : Int) == (c.toNat : Int)) = true := by rw [hc]; simp
        have HIF := hide hif
        clear hif hpl hc
        go_wp2
        go_ret
        exact ⟨ret_int HIF.out, m, rfl⟩
      · have z1 : (((B64.letter j).toNat : Int) == (c.toNat : Int)) = false := beq_eq_false_iff_ne.2 (fun e => hc (UInt8.toNat_inj.1 (by omega)))
        have HC := hide hc
        clear hc
        go_wp2
        go_roundw
        case rel =>
          refine ⟨j + 1, m, by omega, by go_num, fun k hk => ?_, rfl⟩
          rcases Nat.lt_succ_iff_lt_or_eq.1 hk with h | h
          · exact HNO.out k h
          · rw [h]; exact HC.out
        case measure => simp [intOf]; omega
    · have hj64 : j = 64 := by omega
      subst hj64
      have hpl : ¬ B64.place c < 64 := fun h => HNO.out _ h (B64.letter_place c h)
      have hif : (64 : Int) = ((R : Nat) : Int) := by rw [← HRR.out]; have := B64.place_le c; omega
      have HIF := hide hif
      clear hif hpl hlt hj
      go_wp2
      go_ret
      exact ⟨ret_int HIF.out, m, rfl⟩
end Go.Proofs.Ytpogfcfgbnccjab
namespace Go.Proofs.Ytpogfcfgbnccjab
open Go.RowKit

theorem Row.empty {w : World} {g : Nat} (e : TypeId) (size : Nat) (h : w.heap[g]? = some (.cells #[] e)) (base : Nat) (hb : base ≤ g) : Row w base e size (.slice (some ⟨g, 0, none⟩) 0 0) 0 [] :=
  ⟨by simp, .inr ⟨g, 0, [], rfl, hb, (show Blk w g e [] from h).marked, Nat.le_refl _, by decide, by simp, by simp⟩⟩

set_option maxRecDepth 100000 in
set_option maxHeartbeats 3200000 in
theorem pEncode_any (s : ByteArray) (w : World) (hs : s.size ≤ 1099511627) :
    Calls Try.prog 5 #[.string s] w fun e w' => e = .returned (.string ⟨(B64.enc s.data.toList).toArray⟩) ∧ Below w.heap.size w w' := by
  have hlen : s.data.toList.length = s.size := ba_len s
  have hbit := B64.bits6_bit s.data.toList
  have hby := B64.val6_byte s.data.toList
  have HE0 := hide (fun q => B64.enc_end0 (l := s.data.toList) (q := q))
  have HE1 := hide (fun q c => B64.enc_end1 (l := s.data.toList) (q := q) (c := c))
  have HFIN := hide (fun q c N => B64.Wait.fin (l := s.data.toList) (q := q) (c := c) (N := N))
  obtain ⟨P, hP⟩ : ∃ P, B64.bits6 s.data.toList = P := ⟨_, rfl⟩
  rw [hP] at hbit hby HE0 HE1 HFIN
  rw [hlen] at HE0 HE1 HFIN
  have HBY := hide hby
  have HBT := hide hbit
  have HLEN := hide hlen
  generalize B64.enc s.data.toList = EN at *
  clear hP hbit hby hlen
  go_enter Try.func5, Try.ntmps5
  go_wp2
  go_loopw [3, 4, 5, 6] (fun v vb vc vi wr => ∃ i q c N : Nat, i ≤ s.size ∧ vi = .int .i64 (i : Nat) ∧ vb = .int .u32 (N : Nat) ∧ vc = .int .u32 (c : Nat) ∧ 6 * q + c = 8 * i ∧ c < 6 ∧ B64.Wait P 6 q c N ∧ Row wr w.heap.size 5 1 v q (u8L (B64.encN P q)) ∧ Below w.heap.size w wr) (fun _ _ _ i _ => s.size - (intOf i).toNat)
  case atStart => exact ⟨0, 0, 0, 0, Nat.zero_le _, rfl, rfl, rfl, rfl, by decide, B64.Wait.start P 6, Row.empty _ _ (heap_alloc_new _ _) _ (Nat.le_refl _), (Below.refl _ _).alloc (Nat.le_refl _) _⟩
  case round =>
    obtain ⟨i, q, c, N, hi, rfl, rfl, rfl, hq, hc, hW, hr, hbe⟩ := hrel
    by_cases hlt : i < s.size
    · have jj : (i : Int) < (s.size : Int) := by omega
      have hil : i < s.data.toList.length := by rw [HLEN.out]; exact hlt
      have hel : s.data.toList[i]'hil = s[i]'hlt := by rw [byte_at s i hlt, List.getD_eq_getElem?_getD, List.getElem?_eq_getElem hil]; rfl
      have hv := HBY.out i hil
      rw [hel] at hv
      have hx := UInt8.toNat_lt (s[i]'hlt)
      have hW2 := hW.push 8 (s[i]'hlt).toNat (by omega) hx (by rw [hq]; exact hv)
      have n1 : bits .or .u32 ((N : Int) * 256 % 4294967296) ((s[i]'hlt).toNat : Int) = ((N * 2 ^ 8 % 4294967296 + (s[i]'hlt).toNat : Nat) : Int) := by
        rw [← B64.or_push N (s[i]'hlt).toNat 8 (by decide) hx]
        congr 1
      generalize N * 2 ^ 8 % 4294967296 + (s[i]'hlt).toNat = N2 at *
      obtain ⟨C, hC⟩ : ∃ C : Nat, c + 8 = C := ⟨_, rfl⟩
      have n2 : (c : Int) + 8 = (C : Int) := by omega
      rw [hC] at hW2
      have HST := hide (show 6 * q + C = 8 * (i + 1) ∧ C < 14 ∧ B64.Wait P 6 q C N2 from ⟨by omega, by omega, hW2⟩)
      have HR := hide hr
      have HBE := hide hbe
      have HLT := hide hlt
      have e0 : (((s[i]'hlt).toNat : Nat) : Int) % 4294967296 = (((s[i]'hlt).toNat : Nat) : Int) := by omega
      have e1 : (C : Int) % 4294967296 = (C : Int) := by omega
      clear hil hel hv hx hW hW2 hq hc hC hr hbe hi
      go_wp2
      clear n1 e0
      go_loopw [3, 5] (fun v vc wr => ∃ q c : Nat, vc = .int .u32 (c : Nat) ∧ 6 * q + c = 8 * (i + 1) ∧ c < 14 ∧ B64.Wait P 6 q c N2 ∧ Row wr w.heap.size 5 1 v q (u8L (B64.encN P q)) ∧ Below w.heap.size w wr) (fun _ vc _ => (intOf vc).toNat)
      case atStart => exact ⟨q, C, rfl, HST.out.1, HST.out.2.1, HST.out.2.2, HR.out, HBE.out⟩
      case round =>
        clear HST HR HBE
        obtain ⟨q, c, rfl, hq, hc, hW, hr, hbe⟩ := hrel
        by_cases h6 : 6 ≤ c
        · obtain ⟨c2, rfl⟩ : ∃ c2, c = c2 + 6 := ⟨c - 6, by omega⟩
          obtain ⟨ht, hW2⟩ := hW.take HBT.out
          have hNl := hW.lt
          have n3 : (((c2 + 6 : Nat) : Int) - 6) = (c2 : Int) := by omega
          have n4 : (((c2 + 6 : Nat) : Int) - 6) % 4294967296 = (c2 : Int) := by omega
          have hdl : N2 / 2 ^ c2 < 4294967296 := Nat.lt_of_le_of_lt (Nat.div_le_self _ _) hNl
          have n5 : bits .and .u32 ((N2 : Int) / 2 ^ c2) 63 = ((N2 / 2 ^ c2 % 64 : Nat) : Int) := by
            rw [← B64.and63 _ hdl, Int.natCast_ediv, Int.natCast_pow]; rfl
          have hVl : N2 / 2 ^ c2 % 64 < 64 := Nat.mod_lt _ (by decide)
          have ht' : N2 / 2 ^ c2 % 64 = B64.val P (6 * q) 6 := ht
          generalize N2 / 2 ^ c2 % 64 = V at *
          have hla := letter_at V hVl
          have hnx := B64.encN_succ P q
          rw [← ht'] at hnx
          have HNX := hide hnx
          have HST := hide (show 6 * (q + 1) + c2 = 8 * (i + 1) ∧ c2 < 14 ∧ B64.Wait P 6 (q + 1) c2 N2 from ⟨by omega, by omega, hW2⟩)
          have HR := hide hr
          have HBE := hide hbe
          have hsz := hbe.size
          have hqb : q ≤ 17000000000 := by have := HLT.out; omega
          have jV : (V : Int) < 64 := by omega
          have hmin : min c2 32 = c2 := by omega
          obtain ⟨ao, cap, rfl, hd1, hd2⟩ := Row.anyN hr
          unfold maxLen at hd2
          clear hr hbe hW hW2 ht ht' hnx hdl hNl hq hc h6
          go_wp2_with (at_builtin; refine wpList_append_u8 rfl (.tmp 27) (.tmp 33) rfl w.heap.size _ q _ rfl (HR.out.alloc _) ⟨wr.heap.size, 0, none⟩ 1 1 [B64.letter V] rfl rfl (one_news rfl (World.cell?_alloc_at _ _ _ _ rfl)) ?_ ?_ ?_; omega; (simp; omega); intro v1 w1 hr1 hg1 hat1)
          go_roundw
          case rel =>
            refine ⟨q + 1, c2, rfl, HST.out.1, HST.out.2.1, HST.out.2.2, ?_, Below.grown (HBE.out.alloc hsz _) hg1 (by simp; omega) (fun k hk => (HR.out.lt k hk).1)⟩
            rw [HNX.out]
            exact hr1
          case measure => simp [intOf]; omega
        · have HST := hide (show 6 * q + c = 8 * (i + 1) ∧ c < 6 ∧ B64.Wait P 6 q c N2 from ⟨hq, by omega, hW⟩)
          have HR := hide hr
          have HBE := hide hbe
          have j6 : ¬ (6 : Int) ≤ (c : Int) := by omega
          clear hr hbe hW hq hc h6
          go_wp2
          go_roundw
          case rel =>
            have := HLT.out
            exact ⟨i + 1, q, c, N2, by omega, by go_num, rfl, rfl, HST.out.1, HST.out.2.1, HST.out.2.2, HR.out, HBE.out⟩
          case measure => have := HLT.out; simp [intOf]; omega
    · obtain rfl : i = s.size := by omega
      have jj : ¬ ((s.size : Int) < (s.size : Int)) := by omega
      have hsz := hbe.size
      by_cases h0 : c = 0
      · subst h0
        have he := HE0.out q hq
        rw [he] at hr
        obtain ⟨ao2, cap2, rfl, hd1, hd2, hcv⟩ := Row.strAny hr
        unfold maxLen at hd2
        have HBE := hide hbe
        clear hr hbe hW hq hc he hlt hi
        go_wp2
        go_ret
        exact ⟨rfl, HBE.out⟩
      · have hf := HFIN.out q c N hW hq hc
        have he := HE1.out q c hq hc (by omega)
        obtain ⟨d, hd⟩ : ∃ d, 6 - c = d := ⟨_, rfl⟩
        rw [hd] at hf
        have n3 : ((6 : Int) - (c : Int)) = (d : Int) := by omega
        have n4 : (d : Int) % 4294967296 = (d : Int) := by omega
        have hmin : min d 32 = d := by omega
        have j0 : (0 : Int) < (c : Int) := by omega
        have n5 : bits .and .u32 ((N : Int) * 2 ^ d % 4294967296) 63 = ((N * 2 ^ d % 4294967296 % 64 : Nat) : Int) := by
          rw [← B64.and63 _ (Nat.mod_lt _ (by decide))]
          congr 1
        rw [hf] at n5
        have hnx := B64.encN_succ P q
        rw [he] at hnx
        have hVl := B64.val_lt HBT.out (6 * q) 6
        generalize B64.val P (6 * q) 6 = V at *
        have hla := letter_at V hVl
        have HNX := hide hnx
        have HR := hide hr
        have HBE := hide hbe
        have hqb : q ≤ 17000000000 := by omega
        have jV : (V : Int) < 64 := by omega
        obtain ⟨ao, cap, rfl, hd1, hd2⟩ := Row.anyN hr
        unfold maxLen at hd2
        have HSA := hide (fun (w' : World) (v' : Value) (h : Row w' w.heap.size 5 1 v' (q + 1) (u8L EN)) => Row.strAny h)
        clear hr hbe hW hq hc hf he hd hnx h0 hlt hi
        go_wp2_with (at_builtin; refine wpList_append_u8 rfl (.tmp 37) (.tmp 44) rfl w.heap.size _ q _ rfl (HR.out.alloc _) ⟨wr.heap.size, 0, none⟩ 1 1 [B64.letter V] rfl rfl (one_news rfl (World.cell?_alloc_at _ _ _ _ rfl)) ?_ ?_ ?_; omega; (simp; omega); intro v1 w1 hr1 hg1 hat1; rw [← HNX.out] at hr1; obtain ⟨ao2, cap2, rfl, hd3, hd4, hcv⟩ := HSA.out _ _ hr1; unfold maxLen at hd4)
        go_ret
        exact ⟨rfl, Below.grown (HBE.out.alloc hsz _) hg1 (by simp; omega) (fun k hk => (HR.out.lt k hk).1)⟩
end Go.Proofs.Ytpogfcfgbnccjab
namespace Go.Proofs.Ytpogfcfgbnccjab
open Go.RowKit

set_option maxRecDepth 100000 in
set_option maxHeartbeats 3200000 in
theorem pDecode_any (s : ByteArray) (w : World) (hs : s.size ≤ 1099511627) :
    Calls Try.prog 6 #[.string s] w fun e w' => e = .returned (.tuple #[.string ⟨(B64.decAns s.data.toList).1.toArray⟩, .int .i64 (B64.decAns s.data.toList).2]) ∧ Below w.heap.size w w' := by
  have hlen : s.data.toList.length = s.size := ba_len s
  have HBAD := hide (fun c hc h => B64.decAns_bad s.data.toList c hc h)
  have HEQ := hide (fun q c N => B64.decAns_eq (t := s.data.toList) (q := q) (c := c) (N := N))
  have hby := B64.valT_letter s.data.toList
  have hbit := B64.bitsT_bit s.data.toList
  obtain ⟨P, hP⟩ : ∃ P, B64.bitsT s.data.toList = P := ⟨_, rfl⟩
  rw [hP] at hbit hby HEQ
  rw [hlen] at HEQ
  have HBY := hide hby
  have HBT := hide hbit
  have HLEN := hide hlen
  generalize B64.decAns s.data.toList = ans at *
  clear hP hbit hby hlen
  go_enter Try.func6, Try.ntmps6
  go_wp2
  go_loopw [4, 5, 6, 7] (fun v vb vc vi wr => ∃ i q c N : Nat, i ≤ s.size ∧ vi = .int .i64 (i : Nat) ∧ vb = .int .u32 (N : Nat) ∧ vc = .int .u32 (c : Nat) ∧ 8 * q + c = 6 * i ∧ c < 8 ∧ B64.Wait P 8 q c N ∧ (∀ k (hk : k < s.data.toList.length), k < i → B64.place s.data.toList[k] < 64) ∧ Row wr w.heap.size 5 1 v q (u8L (B64.decN P q)) ∧ Below w.heap.size w wr) (fun _ _ _ i _ => s.size - (intOf i).toNat)
  case atStart => exact ⟨0, 0, 0, 0, Nat.zero_le _, rfl, rfl, rfl, rfl, by decide, B64.Wait.start P 8, fun k _ h => absurd h (by omega), Row.empty _ _ (heap_alloc_new _ _) _ (Nat.le_refl _), (Below.refl _ _).alloc (Nat.le_refl _) _⟩
  case round =>
    obtain ⟨i, q, c, N, hi, rfl, rfl, rfl, hq, hc, hW, hgood, hr, hbe⟩ := hrel
    have hsz := hbe.size
    by_cases hlt : i < s.size
    · have jj : (i : Int) < (s.size : Int) := by omega
      have hil : i < s.data.toList.length := by rw [HLEN.out]; exact hlt
      have hel : s.data.toList[i]'hil = s[i]'hlt := by rw [byte_at s i hlt, List.getD_eq_getElem?_getD, List.getElem?_eq_getElem hil]; rfl
      have hv := HBY.out i hil
      have hbd := HBAD.out (s[i]'hlt) (by rw [← hel]; exact List.getElem_mem _)
      have hgd2 : B64.place (s[i]'hlt) < 64 → ∀ k (hk : k < s.data.toList.length), k < i + 1 → B64.place s.data.toList[k] < 64 := by
        intro h k hk hki
        rcases Nat.lt_succ_iff_lt_or_eq.1 hki with h1 | h1
        · exact hgood k hk h1
        · subst h1; rw [hel]; exact h
      rw [hel] at hv
      have hple := B64.place_le (s[i]'hlt)
      have HNUM := hide (fun w => hnum_any (s[i]'hlt) w)
      have HGD2 := hide hgd2
      generalize B64.place (s[i]'hlt) = V at *
      have HR := hide hr
      have HBE := hide hbe
      clear hr hbe hgood hel hil hgd2
      go_wp2_with fail
      refine (HNUM.out _).mono ?_
      rintro e w2 ⟨rfl, m, rfl⟩
      clear HNUM
      by_cases hV : V < 64
      · have hW2 := hW.push 6 V (by omega) hV (by rw [hq]; exact hv hV)
        have n1 : bits .or .u32 ((N : Int) * 64 % 4294967296) (V : Int) = ((N * 2 ^ 6 % 4294967296 + V : Nat) : Int) := by
          rw [← B64.or_push N V 6 (by decide) hV]
          congr 1
        generalize N * 2 ^ 6 % 4294967296 + V = N2 at *
        obtain ⟨C, hC⟩ : ∃ C : Nat, c + 6 = C := ⟨_, rfl⟩
        have n2 : (c : Int) + 6 = (C : Int) := by omega
        have e1 : (C : Int) % 4294967296 = (C : Int) := by omega
        have zV : ((V : Int) == 64) = false := beq_eq_false_iff_ne.2 (by omega)
        have HGD := hide (HGD2.out hV)
        rw [hC] at hW2
        by_cases h8 : 8 ≤ C
        · obtain ⟨c2, rfl⟩ : ∃ c2, C = c2 + 8 := ⟨C - 8, by omega⟩
          obtain ⟨ht, hW3⟩ := hW2.take HBT.out
          have n3 : (((c2 + 8 : Nat) : Int) - 8) = (c2 : Int) := by omega
          have n4 : (((c2 + 8 : Nat) : Int) - 8) % 4294967296 = (c2 : Int) := by omega
          have hmin : min c2 32 = c2 := by omega
          have hdd : ((N2 : Int) / 2 ^ c2) = ((N2 / 2 ^ c2 : Nat) : Int) := by rw [Int.natCast_ediv, Int.natCast_pow]; rfl
          have ht' : N2 / 2 ^ c2 % 256 = B64.val P (8 * q) 8 := ht
          obtain ⟨X, hX⟩ : ∃ X, N2 / 2 ^ c2 = X := ⟨_, rfl⟩
          rw [hX] at hdd ht'
          have hnx := B64.decN_succ P q
          rw [← ht'] at hnx
          have E8 := hide (show (X : Int) % 256 = (((UInt8.ofNat (X % 256)).toNat : Nat) : Int) by simp)
          have j8 : (8 : Int) ≤ ((c2 + 8 : Nat) : Int) := by omega
          have HNX := hide hnx
          have HST := hide (show 8 * (q + 1) + c2 = 6 * (i + 1) ∧ c2 < 8 ∧ B64.Wait P 8 (q + 1) c2 N2 from ⟨by omega, by omega, hW3⟩)
          have hqb : q ≤ 17000000000 := by omega
          have HLT := hide hlt
          obtain ⟨ao, cap, rfl, hd1, hd2⟩ := Row.anyN HR.out
          unfold maxLen at hd2
          clear hW hW2 hW3 ht ht' hnx hq hc hC hX hv hbd hple hV hi HGD2 h8
          go_wp2_with (at_builtin; refine wpList_append_u8 rfl (.tmp 33) (.tmp 38) rfl w.heap.size _ q _ rfl ((HR.out.drewN m).alloc _) ⟨wr.heap.size, 0, none⟩ 1 1 [UInt8.ofNat (X % 256)] rfl rfl (one_news E8.out (World.cell?_alloc_at _ _ _ _ rfl)) ?_ ?_ ?_; omega; (simp; omega); intro v1 w1 hr1 hg1 hat1)
          go_roundw
          case rel =>
            have := HLT.out
            refine ⟨i + 1, q + 1, c2, N2, by omega, by go_num, rfl, rfl, HST.out.1, HST.out.2.1, HST.out.2.2, HGD.out, ?_, Below.grown ((below_drewN HBE.out m).alloc hsz _) hg1 (by simp; omega) (fun k hk => (HR.out.lt k hk).1)⟩
            rw [HNX.out]
            exact hr1
          case measure => have := HLT.out; simp [intOf]; omega
        · have HST := hide (show 8 * q + C = 6 * (i + 1) ∧ C < 8 ∧ B64.Wait P 8 q C N2 from ⟨by omega, by omega, hW2⟩)
          have j8 : ¬ (8 : Int) ≤ (C : Int) := by omega
          have HLT := hide hlt
          clear hW hW2 hq hc hC hv hbd hple hV hi HGD2 h8
          go_wp2
          go_roundw
          case rel =>
            have := HLT.out
            exact ⟨i + 1, q, C, N2, by omega, by go_num, rfl, rfl, HST.out.1, HST.out.2.1, HST.out.2.2, HGD.out, HR.out.drewN m, below_drewN HBE.out m⟩
          case measure => have := HLT.out; simp [intOf]; omega
      · have hV64 : V = 64 := by omega
        have ha := hbd hV
        subst hV64
        subst ha
        clear hbd hv hple hV hW hq hc hi hlt HGD2
        go_wp2
        refine bodyPost_ret (results_tmp2 rfl _ _ _) rfl ?_
        exact ⟨rfl, below_drewN HBE.out m⟩
    · obtain rfl : i = s.size := by omega
      have jj : ¬ ((s.size : Int) < (s.size : Int)) := by omega
      have hall : ∀ x ∈ s.data.toList, B64.place x < 64 := by
        intro x hx
        obtain ⟨k, hk, rfl⟩ := List.getElem_of_mem hx
        exact hgood k hk (by rw [← HLEN.out]; exact hk)
      have ha := HEQ.out q c N hW hq hc hall
      have hNl := hW.lt
      have HBE := hide hbe
      obtain ⟨ao2, cap2, rfl, hd1, hd2, hcv⟩ := Row.strAny hr
      unfold maxLen at hd2
      by_cases h6 : 6 ≤ c
      · rw [if_neg (by omega)] at ha
        subst ha
        have j6 : (6 : Int) ≤ (c : Int) := by omega
        clear hr hbe hW hq hc hgood hall hlt hi h6
        go_wp2
        refine bodyPost_ret (results_tmp2 rfl _ _ _) rfl ?_
        exact ⟨rfl, HBE.out⟩
      · have j6 : ¬ (6 : Int) ≤ (c : Int) := by omega
        have hmin : min c 32 = c := by omega
        have n1 := B64.andLow N c hNl (by omega)
        have hpw : 2 ^ c ≤ 64 := Nat.pow_le_pow_right (n := 2) (by decide) (show c ≤ 6 by omega)
        have hp0 := Nat.two_pow_pos c
        obtain ⟨K, hK⟩ : ∃ K : Nat, 2 ^ c - 1 = K := ⟨_, rfl⟩
        have n2 : ((2 : Int) ^ c % 4294967296) = (2 : Int) ^ c := by
          have : ((2 ^ c : Nat) : Int) % 4294967296 = ((2 ^ c : Nat) : Int) := by omega
          rw [Int.natCast_pow] at this
          exact this
        have n3 : ((2 : Int) ^ c - 1) = (K : Int) := by
          have : ((2 ^ c : Nat) : Int) - 1 = (K : Int) := by omega
          rw [Int.natCast_pow] at this
          exact this
        have n4 : (K : Int) % 4294967296 = (K : Int) := by omega
        rw [hK] at n1
        obtain ⟨R, hR⟩ : ∃ R : Nat, N % 2 ^ c = R := ⟨_, rfl⟩
        rw [hR] at n1 ha
        by_cases hR0 : R = 0
        · subst hR0
          rw [if_pos ⟨by omega, rfl⟩] at ha
          subst ha
          clear hr hbe hW hq hc hgood hall hlt hi h6 hR hK hpw hp0 hNl
          go_wp2
          refine bodyPost_ret (results_tmp2 rfl _ _ _) rfl ?_
          exact ⟨rfl, HBE.out⟩
        · rw [if_neg (fun h => hR0 h.2)] at ha
          subst ha
          have zR : ((R : Int) != 0) = true := by rw [bne_iff_ne]; omega
          clear hr hbe hW hq hc hgood hall hlt hi h6 hR hK hpw hp0 hNl hR0
          go_wp2
          refine bodyPost_ret (results_tmp2 rfl _ _ _) rfl ?_
          exact ⟨rfl, HBE.out⟩
end Go.Proofs.Ytpogfcfgbnccjab
namespace Go.Proofs.Ytpogfcfgbnccjab
open Go.RowKit
namespace B64
theorem enc_len (l : List UInt8) : (enc l).length ≤ 2 * l.length + 1 := by
  unfold enc encN
  rw [List.length_map, List.length_range, bits6_len]
  have := gap_lt (8 * l.length)
  omega
end B64
namespace Hd
def line1 : List UInt8 := [116, 105, 110, 121, 45, 98, 111, 120, 47, 49, 10]
def wrapB : List UInt8 := [45, 62, 32, 119, 114, 97, 112, 32]
def mark : List UInt8 := [45, 45, 45]
def at_ (l : List ByteArray) (i : Nat) : List UInt8 := (l.getD i ⟨#[]⟩).data.toList
def entry (s b : List UInt8) : List UInt8 := wrapB ++ B64.enc s ++ [32] ++ B64.enc b ++ [10]
def bodyP (ss bs : List ByteArray) : Nat → List UInt8
  | 0 => line1
  | k + 1 => bodyP ss bs k ++ entry (at_ ss k) (at_ bs k)
/-- The header's text up to its mark. -/
def body (ss bs : List ByteArray) : List UInt8 := bodyP ss bs ss.length ++ mark
end Hd
/-- A text of a list, where the slice keeps it. -/
theorem Strs.at {w : World} {v : Value} {l : List ByteArray} (h : Strs w v l) (i : Nat) (hi : i < l.length) : ∃ g o c, v = .slice (some ⟨g, o, none⟩) l.length c ∧ g < w.heap.size ∧ w.cell? ⟨g, o + i, none⟩ = some (.string (l.getD i ⟨#[]⟩)) := by
  rcases h with ⟨rfl, _⟩ | ⟨g, o, c, rfl, hc⟩
  · exact absurd hi (by simp)
  · have h1 := hc i l[i] (List.getElem?_eq_getElem hi)
    refine ⟨g, o, c, rfl, World.block_lt_of_cell? w _ h1, ?_⟩
    rw [h1, List.getD_eq_getElem?_getD, List.getElem?_eq_getElem hi]
    rfl
theorem Strs.len {w : World} {v : Value} {l : List ByteArray} (h : Strs w v l) : ∃ ao c, v = .slice ao l.length c := by
  rcases h with ⟨rfl, ao, c, rfl⟩ | ⟨g, o, c, rfl, _⟩
  · exact ⟨_, _, rfl⟩
  · exact ⟨_, _, rfl⟩

end Go.Proofs.Ytpogfcfgbnccjab
namespace Go.Proofs.Ytpogfcfgbnccjab
open Go.RowKit
namespace Hd
def text (ss bs : List ByteArray) (mac : ByteArray) : List UInt8 := body ss bs ++ [32] ++ B64.enc mac.data.toList ++ [10]
/-- What Print answers. -/
def prAns (ss bs : List ByteArray) (mac : ByteArray) : List UInt8 × Int :=
  if ss.length = 0 ∨ 3 < ss.length ∨ bs.length ≠ ss.length then ([], 2)
  else if (∃ i, i < ss.length ∧ ((ss.getD i ⟨#[]⟩).size ≠ 16 ∨ (bs.getD i ⟨#[]⟩).size ≠ 32)) ∨ mac.size ≠ 32 then ([], 1)
  else (text ss bs mac, 0)
end Hd

end Go.Proofs.Ytpogfcfgbnccjab
namespace Go.Proofs.Ytpogfcfgbnccjab
open Go.RowKit

theorem wpList_append_strB {ops : Array Oper} {rest : List Oper} {o : Oper} {a : Act} {w : World} {Q : Exit → Act → World → Prop} (hgd : o.guard = none) (s x : Operand)
    (ho : o.op = .call { callee := .builtin .append, args := #[s, x], argTypes := #[27, 27] })
    (base : Nat) (v : Value) (n : Nat) (xs : List ByteArray) (hs : a.eval s = v) (hown : Row w base 9 1 v n (strV xs))
    (g : Nat) (y : ByteArray) (hx : a.eval x = .slice (some ⟨g, 0, none⟩) 1 1) (hnew : w.cell? ⟨g, 0, none⟩ = some (.string y)) (hn : n ≤ 1099511627) (hbase : base ≤ w.heap.size)
    (h : ∀ v' w', Row w' base 9 1 v' (n + 1) (strV (xs ++ [y])) → w.grownBy w' v.ownBlock → (v'.ownBlock = v.ownBlock ∨ ∃ g, v'.ownBlock = some g ∧ w.heap.size ≤ g) → wpList Try.prog ops Q rest (a.put o.dst v') w') : wpList Try.prog ops Q (o :: rest) a w := by
  obtain ⟨i0, hi, hz0, hz1, hz2⟩ := info_parts infoStr
  refine wpList_plain hgd fun _ hK => ?_
  refine wp_append_row s x 27 ho i0 (.string ByteArray.empty) 16 Try.underlying27 hi hz0 hz1 hz2 rfl (by decide) v n (strV xs) hs hown ⟨g, 0, none⟩ 1 1 [.string y] hx rfl ?_ ?_ ?_ ?_ hbase ?_
  · intro j u hj
    match j, hj with
    | 0, hj => simp at hj; subst hj; rw [Addr.add_mid]; exact hnew
  · intro u hu; simp at hu; subst hu; rfl
  · unfold maxLen; omega
  · omega
  · intro v' w' h1 h2 h3
    exact hK _ _ (h v' w' (by simpa [strV] using h1) h2 h3)
namespace Hd
/-- The pieces ahead of place k, and where the next one begins. -/
def cutS (s : ByteArray) (c : UInt8) : Nat → List ByteArray × Nat
  | 0 => ([], 0)
  | k + 1 => if s.data.toList.getD k 0 = c then ((cutS s c k).1 ++ [s.extract (cutS s c k).2 k], k + 1) else cutS s c k
/-- s, cut at every c. -/
def cut (s : ByteArray) (c : UInt8) : List ByteArray := (cutS s c s.size).1 ++ [s.extract (cutS s c s.size).2 s.size]
theorem cutS_le (s : ByteArray) (c : UInt8) : ∀ k, (cutS s c k).1.length ≤ k ∧ (cutS s c k).2 ≤ k
  | 0 => ⟨Nat.le_refl _, Nat.le_refl _⟩
  | k + 1 => by
    have h := cutS_le s c k
    rw [cutS]
    split
    · exact ⟨by rw [List.length_append]; simp; omega, Nat.le_refl _⟩
    · omega
end Hd

end Go.Proofs.Ytpogfcfgbnccjab
namespace Go.Proofs.Ytpogfcfgbnccjab
open Go.RowKit
namespace Hd
/-- A word as base64; nothing, if it is none. -/
def byT (x : ByteArray) : ByteArray := ⟨(B64.decAns x.data.toList).1.toArray⟩
structure St where
  ss : List ByteArray
  bs : List ByteArray
  mac : ByteArray
def nil : St := ⟨[], [], ⟨#[]⟩⟩
/-- One line more. -/
def stepL (st : St) (line : ByteArray) : St :=
  if (cut line 32).length = 4 then ⟨st.ss ++ [byT ((cut line 32).getD 2 ⟨#[]⟩)], st.bs ++ [byT ((cut line 32).getD 3 ⟨#[]⟩)], st.mac⟩
  else if (cut line 32).length = 2 then ⟨st.ss, st.bs, byT ((cut line 32).getD 1 ⟨#[]⟩)⟩
  else st
/-- Behind the lines 1 .. k. -/
def lines (ls : List ByteArray) : Nat → St
  | 0 => nil
  | k + 1 => stepL (lines ls k) (ls.getD (k + 1) ⟨#[]⟩)
def parsed (t : ByteArray) : St := lines (cut t 10) ((cut t 10).length - 2)
/-- What Parse answers. -/
def parAns (t : ByteArray) : St × Int :=
  if 284 < t.size then (nil, 6) else if prAns (parsed t).ss (parsed t).bs (parsed t).mac = (t.data.toList, 0) then (parsed t, 0) else (nil, 6)
theorem byT_len (x : ByteArray) : (byT x).size ≤ x.size := by
  unfold byT
  rw [ba_size]
  unfold B64.decAns
  split
  · show (B64.dec _).length ≤ _
    unfold B64.dec B64.decN
    rw [List.length_map, List.length_range, B64.bitsT_len, ba_len]
    omega
  · exact Nat.zero_le _
end Hd
/-- A row of texts reads as its texts. -/
theorem Row.strs {w : World} {base : Nat} {v : Value} {l : List ByteArray} (h : Row w base 9 1 v l.length (strV l)) : Strs w v l := by
  rcases Nat.eq_zero_or_pos l.length with h0 | h0
  · obtain ⟨ao, cap, rfl, _⟩ := Row.anyN h
    exact .inl ⟨List.eq_nil_of_length_eq_zero h0, ao, cap, by rw [h0]⟩
  · obtain ⟨g, cap, cur, rfl, _, hB, _, _, _, htk⟩ := h.open h0
    refine .inr ⟨g, 0, cap, rfl, fun i x hx => ?_⟩
    rw [Nat.zero_add]
    exact hB.cell (take_at htk (by simp [strV, hx]))
theorem Strs.below {w w' : World} {v : Value} {l : List ByteArray} (h : Strs w v l) {B : Nat} (hb : Below B w w') (hB : ∀ g o n c, v = .slice (some ⟨g, o, none⟩) n c → 0 < l.length → g < B) : Strs w' v l := by
  rcases h with h | ⟨g, o, c, rfl, hc⟩
  · exact .inl h
  · refine .inr ⟨g, o, c, rfl, fun i x hx => ?_⟩
    have hl : 0 < l.length := Nat.lt_of_le_of_lt (Nat.zero_le i) (List.getElem?_eq_some_iff.1 hx).1
    rw [hb.cell (show (⟨g, o + i, none⟩ : Addr).block < B from hB g o _ c rfl hl)]
    exact hc i x hx
theorem Strs.blt {w : World} {v : Value} {l : List ByteArray} (h : Strs w v l) : ∀ g o n c, v = .slice (some ⟨g, o, none⟩) n c → 0 < l.length → g < w.heap.size := by
  intro g o n c hv hl
  obtain ⟨g', o', c', hv', hlt, _⟩ := h.at 0 hl
  rw [hv] at hv'
  cases hv'
  exact hlt
theorem Strs.after {w w' : World} {v : Value} {l : List ByteArray} (h : Strs w v l) (hb : Below w.heap.size w w') : Strs w' v l := h.below hb h.blt
end Go.Proofs.Ytpogfcfgbnccjab
namespace Go.Proofs.Ytpogfcfgbnccjab
open Go.RowKit
namespace Hd
def ofL (l : List UInt8) : ByteArray := ⟨l.toArray⟩
theorem ofL_list (l : List UInt8) : (ofL l).data.toList = l := rfl
theorem ofL_of (s : ByteArray) : ofL s.data.toList = s := ba_ext rfl
/-- A text, cut at every c, from its beginning on: cur is what has come of the piece. -/
def fw (c : UInt8) : List UInt8 → List UInt8 → List (List UInt8)
  | cur, [] => [cur]
  | cur, x :: r => if x = c then cur :: fw c [] r else fw c (cur ++ [x]) r
theorem cutS_fw (s : ByteArray) (c : UInt8) : ∀ k, k ≤ s.size → (cutS s c k).1 ++ (fw c ((s.data.toList.take k).drop (cutS s c k).2) (s.data.toList.drop k)).map ofL = (fw c [] s.data.toList).map ofL
  | 0, _ => rfl
  | k + 1, hk => by
    have ih := cutS_fw s c k (by omega)
    have hle := (cutS_le s c k).2
    have hlt : k < s.data.toList.length := by rw [ba_len]; exact hk
    have hg : s.data.toList.getD k 0 = s.data.toList[k] := by rw [List.getD_eq_getElem?_getD, List.getElem?_eq_getElem hlt]; rfl
    rw [List.drop_eq_getElem_cons hlt, fw] at ih
    rw [cutS, hg]
    by_cases hc : s.data.toList[k] = c
    · rw [if_pos hc, List.map_cons] at ih
      rw [if_pos hc]
      show ((cutS s c k).1 ++ [s.extract (cutS s c k).2 k]) ++ _ = _
      have e1 : (List.take (k + 1) s.data.toList).drop (k + 1) = [] := List.drop_eq_nil_of_le (by rw [List.length_take]; omega)
      have e2 : s.extract (cutS s c k).2 k = ofL ((s.data.toList.take k).drop (cutS s c k).2) := by
        apply ba_ext
        rw [sub_list, ofL_list, List.drop_take]
      show _ ++ (fw c ((List.take (k + 1) s.data.toList).drop (k + 1)) _).map ofL = _
      rw [e1, e2, ← ih, List.append_assoc]
      rfl
    · rw [if_neg hc] at ih
      rw [if_neg hc, ← ih, List.take_succ_eq_append_getElem hlt, List.drop_append_of_le_length (by rw [List.length_take]; omega)]
theorem cut_fw (s : ByteArray) (c : UInt8) : cut s c = (fw c [] s.data.toList).map ofL := by
  have h := cutS_fw s c s.size (Nat.le_refl _)
  have hd : s.data.toList.drop s.size = [] := List.drop_eq_nil_of_le (by rw [ba_len]; exact Nat.le_refl _)
  rw [hd, fw] at h
  rw [← h, cut]
  congr 1
  rw [List.map_cons, List.map_nil]
  congr 1
  apply ba_ext
  rw [sub_list, ofL_list, List.drop_take]
theorem fw_hit (c : UInt8) (r : List UInt8) : ∀ (a cur : List UInt8), c ∉ a → fw c cur (a ++ c :: r) = (cur ++ a) :: fw c [] r
  | [], cur, _ => by rw [List.nil_append, fw, if_pos rfl, List.append_nil]
  | x :: a, cur, h => by
    rw [List.cons_append, fw, if_neg (fun e => h (by rw [e]; exact List.mem_cons_self)), fw_hit c r a _ (fun e => h (List.mem_cons_of_mem _ e)), List.append_assoc]
    rfl
theorem fw_end (c : UInt8) : ∀ (a cur : List UInt8), c ∉ a → fw c cur a = [cur ++ a]
  | [], cur, _ => by rw [fw, List.append_nil]
  | x :: a, cur, h => by
    rw [fw, if_neg (fun e => h (by rw [e]; exact List.mem_cons_self)), fw_end c a _ (fun e => h (List.mem_cons_of_mem _ e)), List.append_assoc]
    rfl
theorem enc_no (l : List UInt8) (c : UInt8) (hc : ¬ B64.place c < 64) : c ∉ B64.enc l := fun h => hc (B64.enc_letters l c h)
theorem no10 (l : List UInt8) : (10 : UInt8) ∉ B64.enc l := enc_no l 10 (by decide)
theorem no32 (l : List UInt8) : (32 : UInt8) ∉ B64.enc l := enc_no l 32 (by decide)
/-- A line of a salt and a body, without its line feed. -/
def eline (s b : List UInt8) : List UInt8 := wrapB ++ B64.enc s ++ [32] ++ B64.enc b
def mline (m : List UInt8) : List UInt8 := mark ++ [32] ++ B64.enc m
def line0 : List UInt8 := [116, 105, 110, 121, 45, 98, 111, 120, 47, 49]
theorem eline_no (s b : List UInt8) : (10 : UInt8) ∉ eline s b := by
  unfold eline
  rw [List.mem_append, List.mem_append, List.mem_append]
  rintro (((h | h) | h) | h)
  · exact absurd h (by decide)
  · exact no10 _ h
  · exact absurd h (by decide)
  · exact no10 _ h
theorem mline_no (m : List UInt8) : (10 : UInt8) ∉ mline m := by
  unfold mline
  rw [List.mem_append, List.mem_append]
  rintro ((h | h) | h)
  · exact absurd h (by decide)
  · exact absurd h (by decide)
  · exact no10 _ h
theorem eline_cut (s b : List UInt8) : cut (ofL (eline s b)) 32 = [ofL [45, 62], ofL [119, 114, 97, 112], ofL (B64.enc s), ofL (B64.enc b)] := by
  rw [cut_fw, ofL_list]
  have e : eline s b = [45, 62] ++ 32 :: ([119, 114, 97, 112] ++ 32 :: (B64.enc s ++ 32 :: B64.enc b)) := by
    unfold eline wrapB
    simp only [List.append_assoc, List.cons_append, List.nil_append]
  rw [e, fw_hit 32 _ [45, 62] _ (by decide), fw_hit 32 _ [119, 114, 97, 112] _ (by decide), fw_hit 32 _ _ _ (no32 s), fw_end 32 _ _ (no32 b)]
  simp only [List.nil_append, List.map_cons, List.map_nil]
theorem mline_cut (m : List UInt8) : cut (ofL (mline m)) 32 = [ofL [45, 45, 45], ofL (B64.enc m)] := by
  rw [cut_fw, ofL_list]
  have e : mline m = [45, 45, 45] ++ 32 :: B64.enc m := by
    unfold mline mark
    simp only [List.cons_append, List.nil_append]
  rw [e, fw_hit 32 _ [45, 45, 45] _ (by decide), fw_end 32 _ _ (no32 m)]
  rfl
theorem byT_enc (x : ByteArray) : byT (ofL (B64.enc x.data.toList)) = x := by
  unfold byT
  rw [ofL_list, B64.decAns_enc]
theorem stepL_e (st : St) (s b : ByteArray) : stepL st (ofL (eline s.data.toList b.data.toList)) = ⟨st.ss ++ [s], st.bs ++ [b], st.mac⟩ := by
  unfold stepL
  rw [eline_cut, if_pos (by rfl)]
  show (⟨st.ss ++ [byT (ofL (B64.enc s.data.toList))], st.bs ++ [byT (ofL (B64.enc b.data.toList))], st.mac⟩ : St) = _
  rw [byT_enc, byT_enc]
theorem stepL_m (st : St) (m : ByteArray) : stepL st (ofL (mline m.data.toList)) = ⟨st.ss, st.bs, m⟩ := by
  unfold stepL
  rw [mline_cut, if_neg (by simp), if_pos (by rfl)]
  show (⟨st.ss, st.bs, byT (ofL (B64.enc m.data.toList))⟩ : St) = _
  rw [byT_enc]
theorem text1 (a p m : ByteArray) : text [a] [p] m = line0 ++ 10 :: (eline a.data.toList p.data.toList ++ 10 :: (mline m.data.toList ++ 10 :: [])) := by
  show (line1 ++ entry a.data.toList p.data.toList ++ mark) ++ [32] ++ B64.enc m.data.toList ++ [10] = _
  unfold entry eline mline line1 line0
  simp only [List.append_assoc, List.cons_append, List.nil_append]
theorem text2 (a b p q m : ByteArray) : text [a, b] [p, q] m = line0 ++ 10 :: (eline a.data.toList p.data.toList ++ 10 :: (eline b.data.toList q.data.toList ++ 10 :: (mline m.data.toList ++ 10 :: []))) := by
  show (line1 ++ entry a.data.toList p.data.toList ++ entry b.data.toList q.data.toList ++ mark) ++ [32] ++ B64.enc m.data.toList ++ [10] = _
  unfold entry eline mline line1 line0
  simp only [List.append_assoc, List.cons_append, List.nil_append]
theorem text3 (a b c p q r m : ByteArray) : text [a, b, c] [p, q, r] m = line0 ++ 10 :: (eline a.data.toList p.data.toList ++ 10 :: (eline b.data.toList q.data.toList ++ 10 :: (eline c.data.toList r.data.toList ++ 10 :: (mline m.data.toList ++ 10 :: [])))) := by
  show (line1 ++ entry a.data.toList p.data.toList ++ entry b.data.toList q.data.toList ++ entry c.data.toList r.data.toList ++ mark) ++ [32] ++ B64.enc m.data.toList ++ [10] = _
  unfold entry eline mline line1 line0
  simp only [List.append_assoc, List.cons_append, List.nil_append]
/-- What is printed is read. -/
theorem parsed_text (ss bs : List ByteArray) (m : ByteArray) (h0 : ss.length ≠ 0) (h3 : ¬ 3 < ss.length) (hb : bs.length = ss.length) : parsed (ofL (text ss bs m)) = ⟨ss, bs, m⟩ := by
  have d0 : (10 : UInt8) ∉ line0 := by decide
  match ss, bs, h0, h3, hb with
  | [a], [p], _, _, _ =>
    have hc : cut (ofL (text [a] [p] m)) 10 = [ofL line0, ofL (eline a.data.toList p.data.toList), ofL (mline m.data.toList), ofL []] := by
      rw [cut_fw, ofL_list, text1, fw_hit 10 _ _ _ d0, fw_hit 10 _ _ _ (eline_no _ _), fw_hit 10 _ _ _ (mline_no _), fw]
      rfl
    unfold parsed
    rw [hc]
    show stepL (stepL nil (ofL (eline a.data.toList p.data.toList))) (ofL (mline m.data.toList)) = _
    rw [stepL_e, stepL_m]
    rfl
  | [a, b], [p, q], _, _, _ =>
    have hc : cut (ofL (text [a, b] [p, q] m)) 10 = [ofL line0, ofL (eline a.data.toList p.data.toList), ofL (eline b.data.toList q.data.toList), ofL (mline m.data.toList), ofL []] := by
      rw [cut_fw, ofL_list, text2, fw_hit 10 _ _ _ d0, fw_hit 10 _ _ _ (eline_no _ _), fw_hit 10 _ _ _ (eline_no _ _), fw_hit 10 _ _ _ (mline_no _), fw]
      rfl
    unfold parsed
    rw [hc]
    show stepL (stepL (stepL nil (ofL (eline a.data.toList p.data.toList))) (ofL (eline b.data.toList q.data.toList))) (ofL (mline m.data.toList)) = _
    rw [stepL_e, stepL_e, stepL_m]
    rfl
  | [a, b, c], [p, q, r], _, _, _ =>
    have hc : cut (ofL (text [a, b, c] [p, q, r] m)) 10 = [ofL line0, ofL (eline a.data.toList p.data.toList), ofL (eline b.data.toList q.data.toList), ofL (eline c.data.toList r.data.toList), ofL (mline m.data.toList), ofL []] := by
      rw [cut_fw, ofL_list, text3, fw_hit 10 _ _ _ d0, fw_hit 10 _ _ _ (eline_no _ _), fw_hit 10 _ _ _ (eline_no _ _), fw_hit 10 _ _ _ (eline_no _ _), fw_hit 10 _ _ _ (mline_no _), fw]
      rfl
    unfold parsed
    rw [hc]
    show stepL (stepL (stepL (stepL nil (ofL (eline a.data.toList p.data.toList))) (ofL (eline b.data.toList q.data.toList))) (ofL (eline c.data.toList r.data.toList))) (ofL (mline m.data.toList)) = _
    rw [stepL_e, stepL_e, stepL_e, stepL_m]
    rfl
  | [], _, h, _, _ => exact absurd rfl h
  | _ :: _ :: _ :: _ :: _, _, _, h, _ => exact absurd (by simp) h
  | [_], [], _, _, h => simp at h
  | [_], _ :: _ :: _, _, _, h => simp at h
  | [_, _], [], _, _, h => simp at h
  | [_, _], [_], _, _, h => simp at h
  | [_, _], _ :: _ :: _ :: _, _, _, h => simp at h
  | [_, _, _], [], _, _, h => simp at h
  | [_, _, _], [_], _, _, h => simp at h
  | [_, _, _], [_, _], _, _, h => simp at h
  | [_, _, _], _ :: _ :: _ :: _ :: _, _, _, h => simp at h
/-- A header that Print takes. -/
structure Ok (ss bs : List ByteArray) (m : ByteArray) : Prop where
  n0 : ss.length ≠ 0
  n3 : ¬ 3 < ss.length
  nb : bs.length = ss.length
  hs : ∀ i, i < ss.length → (ss.getD i ⟨#[]⟩).size = 16
  hb : ∀ i, i < ss.length → (bs.getD i ⟨#[]⟩).size = 32
  hm : m.size = 32
theorem prAns_ok {ss bs : List ByteArray} {m : ByteArray} (h : Ok ss bs m) : prAns ss bs m = (text ss bs m, 0) := by
  unfold prAns
  rw [if_neg (by rintro (e | e | e); exact h.n0 e; exact h.n3 e; exact e h.nb), if_neg]
  rintro (⟨i, hi, e | e⟩ | e)
  · exact e (h.hs i hi)
  · exact e (h.hb i hi)
  · exact e h.hm
theorem ok_of_prAns {ss bs : List ByteArray} {m : ByteArray} {t : List UInt8} (h : prAns ss bs m = (t, 0)) : Ok ss bs m ∧ text ss bs m = t := by
  unfold prAns at h
  split at h
  · injection h with _ h2; exact absurd h2 (by decide)
  · rename_i h1
    split at h
    · injection h with _ h2; exact absurd h2 (by decide)
    · rename_i h2
      injection h with h3 _
      refine ⟨⟨fun e => h1 (.inl e), fun e => h1 (.inr (.inl e)), Decidable.byContradiction fun e => h1 (.inr (.inr e)), fun i hi => Decidable.byContradiction fun e => h2 (.inl ⟨i, hi, .inl e⟩), fun i hi => Decidable.byContradiction fun e => h2 (.inl ⟨i, hi, .inr e⟩), Decidable.byContradiction fun e => h2 (.inr e)⟩, h3⟩
theorem enc16 (s : List UInt8) (h : s.length = 16) : (B64.enc s).length = 22 := by rw [B64.enc_length, h]; rfl
theorem enc32 (s : List UInt8) (h : s.length = 32) : (B64.enc s).length = 43 := by rw [B64.enc_length, h]; rfl
theorem Ok.at_s {ss bs : List ByteArray} {m : ByteArray} (h : Ok ss bs m) (i : Nat) (hi : i < ss.length) : (B64.enc (at_ ss i)).length = 22 := enc16 _ (by unfold at_; rw [ba_len]; exact h.hs i hi)
theorem Ok.at_b {ss bs : List ByteArray} {m : ByteArray} (h : Ok ss bs m) (i : Nat) (hi : i < ss.length) : (B64.enc (at_ bs i)).length = 43 := enc32 _ (by unfold at_; rw [ba_len]; exact h.hb i hi)
theorem Ok.at_m {ss bs : List ByteArray} {m : ByteArray} (h : Ok ss bs m) : (B64.enc m.data.toList).length = 43 := enc32 _ (by rw [ba_len]; exact h.hm)
theorem Ok.entry_len {ss bs : List ByteArray} {m : ByteArray} (h : Ok ss bs m) (i : Nat) (hi : i < ss.length) : (entry (at_ ss i) (at_ bs i)).length = 75 := by
  unfold entry wrapB
  simp only [List.length_append, List.length_cons, List.length_nil]
  rw [h.at_s i hi, h.at_b i hi]
theorem Ok.bodyP_len {ss bs : List ByteArray} {m : ByteArray} (h : Ok ss bs m) : ∀ k, k ≤ ss.length → (bodyP ss bs k).length = 11 + 75 * k
  | 0, _ => rfl
  | k + 1, hk => by rw [bodyP, List.length_append, h.bodyP_len k (by omega), h.entry_len k (by omega)]; omega
theorem Ok.text_len {ss bs : List ByteArray} {m : ByteArray} (h : Ok ss bs m) : (text ss bs m).length = 59 + 75 * ss.length := by
  unfold text body mark
  simp only [List.length_append, List.length_cons, List.length_nil]
  rw [h.bodyP_len _ (Nat.le_refl _), h.at_m]
  omega
/-- What is printed is read: the answer. -/
theorem parAns_text {ss bs : List ByteArray} {m : ByteArray} (h : Ok ss bs m) : parAns (ofL (text ss bs m)) = (⟨ss, bs, m⟩, 0) := by
  have h1 := h.text_len
  have h2 := h.n3
  unfold parAns
  rw [if_neg (by show ¬ 284 < (ofL _).size; unfold ofL; rw [ba_size]; omega), parsed_text ss bs m h.n0 h.n3 h.nb]
  exact if_pos (prAns_ok h)
/-- Parse tells a header of which the text is, or ErrHead. -/
theorem parAns_cases (t : ByteArray) : parAns t = (nil, 6) ∨ ∃ ss bs m, Ok ss bs m ∧ t = ofL (text ss bs m) ∧ parAns t = (⟨ss, bs, m⟩, 0) := by
  by_cases h1 : 284 < t.size
  · exact .inl (by unfold parAns; rw [if_pos h1])
  · by_cases h2 : prAns (parsed t).ss (parsed t).bs (parsed t).mac = (t.data.toList, 0)
    · obtain ⟨hok, ht⟩ := ok_of_prAns h2
      refine .inr ⟨_, _, _, hok, ?_, ?_⟩
      · rw [ht]; exact (ofL_of t).symm
      · unfold parAns; rw [if_neg h1, if_pos h2]
    · exact .inl (by unfold parAns; rw [if_neg h1, if_neg h2])
theorem bodyP_drop {ss bs : List ByteArray} {m : ByteArray} (h : Ok ss bs m) (k : Nat) : ∀ j, k + j ≤ ss.length → ∃ r, bodyP ss bs (k + j) = bodyP ss bs k ++ r ∧ (0 < j → ∃ r', r = entry (at_ ss k) (at_ bs k) ++ r')
  | 0, _ => ⟨[], by rw [List.append_nil]; rfl, fun h => absurd h (by omega)⟩
  | j + 1, hj => by
    obtain ⟨r, h1, h2⟩ := bodyP_drop h k j (by omega)
    refine ⟨r ++ entry (at_ ss (k + j)) (at_ bs (k + j)), ?_, fun _ => ?_⟩
    · rw [← Nat.add_assoc, bodyP, h1, List.append_assoc]
    · rcases Nat.eq_zero_or_pos j with h0 | h0
      · subst h0
        have h1' : bodyP ss bs k = bodyP ss bs k ++ r := h1
        have hr : r = [] := List.self_eq_append_right.1 h1'
        exact ⟨[], by rw [hr, List.nil_append, List.append_nil]; rfl⟩
      · obtain ⟨r', h3⟩ := h2 h0
        exact ⟨r' ++ entry (at_ ss (k + j)) (at_ bs (k + j)), by rw [h3, List.append_assoc]⟩
theorem Ok.part (ss bs : List ByteArray) (m : ByteArray) (h : Ok ss bs m) (k : Nat) (hk : k < ss.length) : ∃ r, (text ss bs m).drop (11 + 75 * k) = entry (at_ ss k) (at_ bs k) ++ r := by
  obtain ⟨j, hj⟩ : ∃ j, ss.length = k + j := ⟨ss.length - k, by omega⟩
  obtain ⟨r, h1, h2⟩ := bodyP_drop h k j (by omega)
  obtain ⟨r', rfl⟩ := h2 (by omega)
  refine ⟨r' ++ mark ++ [32] ++ B64.enc m.data.toList ++ [10], ?_⟩
  unfold text body
  rw [hj, h1]
  simp only [List.append_assoc]
  rw [List.drop_left' (h.bodyP_len k (by omega))]
theorem Ok.last (ss bs : List ByteArray) (m : ByteArray) (h : Ok ss bs m) : (text ss bs m).drop (11 + 75 * ss.length) = mark ++ [32] ++ B64.enc m.data.toList ++ [10] := by
  unfold text body
  simp only [List.append_assoc]
  rw [List.drop_left' (h.bodyP_len _ (Nat.le_refl _))]
theorem drop_cat {a b : List UInt8} {n : Nat} (h : a.length = n) : (a ++ b).drop n = b := List.drop_left' h
theorem take_cat {a b : List UInt8} {n : Nat} (h : a.length = n) : (a ++ b).take n = a := List.take_left' h
/-- The salt's letters, the body's, the MAC's, at their places. -/
theorem Ok.salt (ss bs : List ByteArray) (m : ByteArray) (h : Ok ss bs m) (k : Nat) (hk : k < ss.length) : ((text ss bs m).drop (11 + 75 * k + 8)).take 22 = B64.enc (at_ ss k) := by
  obtain ⟨r, hr⟩ := h.part _ _ _ k hk
  rw [← List.drop_drop, hr]
  unfold entry
  simp only [List.append_assoc]
  rw [drop_cat (n := 8) (a := wrapB) rfl, take_cat (h.at_s k hk)]
theorem Ok.bod (ss bs : List ByteArray) (m : ByteArray) (h : Ok ss bs m) (k : Nat) (hk : k < ss.length) : ((text ss bs m).drop (11 + 75 * k + 31)).take 43 = B64.enc (at_ bs k) := by
  obtain ⟨r, hr⟩ := h.part _ _ _ k hk
  have e : 31 = 8 + (22 + 1) := rfl
  rw [← List.drop_drop, hr, e, ← List.drop_drop, ← List.drop_drop]
  unfold entry
  simp only [List.append_assoc]
  rw [drop_cat (n := 8) (a := wrapB) rfl, drop_cat (h.at_s k hk), drop_cat (n := 1) (a := [32]) rfl, take_cat (h.at_b k hk)]
theorem Ok.mac (ss bs : List ByteArray) (m : ByteArray) (h : Ok ss bs m) : ((text ss bs m).drop (11 + 75 * ss.length + 4)).take 43 = B64.enc m.data.toList := by
  have e : 4 = 3 + 1 := rfl
  rw [← List.drop_drop, h.last, e, ← List.drop_drop]
  simp only [List.append_assoc]
  rw [drop_cat (n := 3) (a := mark) rfl, drop_cat (n := 1) (a := [32]) rfl, take_cat h.at_m]
end Hd
namespace Hd
def wraps (z : Nat) : Nat := if z = 134 then 1 else if z = 209 then 2 else if z = 284 then 3 else 0
theorem wraps_of {n : Nat} (h0 : n ≠ 0) (h3 : ¬ 3 < n) : wraps (59 + 75 * n) = n :=
  match n, h0, h3 with
  | 1, _, _ => rfl
  | 2, _, _ => rfl
  | 3, _, _ => rfl
  | 0, h, _ => absurd rfl h
  | n + 4, _, h => absurd (by omega) h
theorem wraps_size {z : Nat} (h : wraps z ≠ 0) : z = 59 + 75 * wraps z ∧ wraps z ≤ 3 := by
  unfold wraps at h ⊢
  split
  · omega
  · split
    · omega
    · split
      · omega
      · rename_i h1 h2 h3
        rw [if_neg h1, if_neg h2, if_neg h3] at h
        exact absurd rfl h
def lineOf (t : ByteArray) (i : Nat) : ByteArray := t.extract (11 + 75 * i) (11 + 75 * i + 75)
def wS (l : ByteArray) : ByteArray := l.extract 8 30
def wB (l : ByteArray) : ByteArray := l.extract 31 74
def wM (t : ByteArray) (n : Nat) : ByteArray := t.extract (11 + 75 * n + 4) (11 + 75 * n + 47)
def err (x : ByteArray) : Int := (B64.decAns x.data.toList).2
def sals (t : ByteArray) (k : Nat) : List ByteArray := (List.range k).map fun i => byT (wS (lineOf t i))
def bods (t : ByteArray) (k : Nat) : List ByteArray := (List.range k).map fun i => byT (wB (lineOf t i))
theorem sals_succ (t : ByteArray) (k : Nat) : sals t (k + 1) = sals t k ++ [byT (wS (lineOf t k))] := by simp [sals, List.range_succ]
theorem bods_succ (t : ByteArray) (k : Nat) : bods t (k + 1) = bods t k ++ [byT (wB (lineOf t k))] := by simp [bods, List.range_succ]
theorem sals_len (t : ByteArray) (k : Nat) : (sals t k).length = k := by simp [sals]
theorem bods_len (t : ByteArray) (k : Nat) : (bods t k).length = k := by simp [bods]
theorem sub_sub (l : List UInt8) (a b c d : Nat) (h : c + d ≤ b) : (((l.drop a).take b).drop c).take d = (l.drop (a + c)).take d := by
  rw [List.drop_take, List.drop_drop, List.take_take, Nat.min_eq_left (by omega)]
theorem wS_list (t : ByteArray) (i : Nat) : (wS (lineOf t i)).data.toList = (t.data.toList.drop (11 + 75 * i + 8)).take 22 := by
  unfold wS lineOf
  rw [sub_list, sub_list, show 11 + 75 * i + 75 - (11 + 75 * i) = 75 by omega, sub_sub _ _ _ _ _ (by decide)]
theorem wB_list (t : ByteArray) (i : Nat) : (wB (lineOf t i)).data.toList = (t.data.toList.drop (11 + 75 * i + 31)).take 43 := by
  unfold wB lineOf
  rw [sub_list, sub_list, show 11 + 75 * i + 75 - (11 + 75 * i) = 75 by omega, sub_sub _ _ _ _ _ (by decide)]
theorem wM_list (t : ByteArray) (n : Nat) : (wM t n).data.toList = (t.data.toList.drop (11 + 75 * n + 4)).take 43 := by
  unfold wM
  rw [sub_list, show 11 + 75 * n + 47 - (11 + 75 * n + 4) = 43 by omega]
section
variable {ss bs : List ByteArray} {m : ByteArray}
theorem Ok.rS (h : Ok ss bs m) (i : Nat) (hi : i < ss.length) : B64.decAns (wS (lineOf (ofL (text ss bs m)) i)).data.toList = (at_ ss i, 0) := by
  rw [wS_list, ofL_list, h.salt _ _ _ i hi, B64.decAns_enc]
theorem Ok.rB (h : Ok ss bs m) (i : Nat) (hi : i < ss.length) : B64.decAns (wB (lineOf (ofL (text ss bs m)) i)).data.toList = (at_ bs i, 0) := by
  rw [wB_list, ofL_list, h.bod _ _ _ i hi, B64.decAns_enc]
theorem Ok.rM (h : Ok ss bs m) : B64.decAns (wM (ofL (text ss bs m)) ss.length).data.toList = (m.data.toList, 0) := by
  rw [wM_list, ofL_list, h.mac, B64.decAns_enc]
theorem at_ofL (l : List ByteArray) (i : Nat) (hi : i < l.length) : ofL (at_ l i) = l[i] := by
  unfold at_
  rw [ofL_of, List.getD_eq_getElem?_getD, List.getElem?_eq_getElem hi]
  rfl
theorem Ok.sals_eq (h : Ok ss bs m) : sals (ofL (text ss bs m)) ss.length = ss := by
  refine List.ext_getElem (sals_len _ _) fun i h1 h2 => ?_
  have e : (sals (ofL (text ss bs m)) ss.length)[i] = byT (wS (lineOf (ofL (text ss bs m)) i)) := (List.getElem_map _).trans (by rw [List.getElem_range])
  rw [e]
  unfold byT
  rw [h.rS i h2]
  exact at_ofL ss i h2
theorem Ok.bods_eq (h : Ok ss bs m) : bods (ofL (text ss bs m)) ss.length = bs := by
  refine List.ext_getElem ((bods_len _ _).trans h.nb.symm) fun i h1 h2 => ?_
  have e : (bods (ofL (text ss bs m)) ss.length)[i] = byT (wB (lineOf (ofL (text ss bs m)) i)) := (List.getElem_map _).trans (by rw [List.getElem_range])
  rw [e]
  unfold byT
  rw [h.rB i (by rw [← h.nb]; exact h2)]
  exact at_ofL bs i h2
theorem Ok.mac_eq (h : Ok ss bs m) : byT (wM (ofL (text ss bs m)) ss.length) = m := by
  unfold byT
  rw [h.rM]
theorem Ok.size_eq (h : Ok ss bs m) : (ofL (text ss bs m)).size = 59 + 75 * ss.length := by
  unfold ofL
  rw [ba_size, h.text_len]
theorem Ok.wraps_eq (h : Ok ss bs m) : wraps (ofL (text ss bs m)).size = ss.length := by rw [h.size_eq, wraps_of h.n0 h.n3]
end
theorem parse_no {t : ByteArray} (h : wraps t.size = 0) : parAns t = (nil, 6) := by
  rcases parAns_cases t with h1 | ⟨ss, bs, m, hO, rfl, _⟩
  · exact h1
  · rw [hO.wraps_eq] at h
    exact absurd h hO.n0
theorem parse_line {t : ByteArray} {i : Nat} (hi : i < wraps t.size) (h : err (wS (lineOf t i)) ≠ 0 ∨ err (wB (lineOf t i)) ≠ 0) : parAns t = (nil, 6) := by
  rcases parAns_cases t with h1 | ⟨ss, bs, m, hO, rfl, _⟩
  · exact h1
  · rw [hO.wraps_eq] at hi
    unfold err at h
    rw [hO.rS i hi, hO.rB i hi] at h
    rcases h with h | h <;> exact absurd rfl h
theorem parse_mac {t : ByteArray} {n : Nat} (hn : wraps t.size = n) (h : err (wM t n) ≠ 0) : parAns t = (nil, 6) := by
  rcases parAns_cases t with h1 | ⟨ss, bs, m, hO, rfl, _⟩
  · exact h1
  · rw [hO.wraps_eq] at hn
    subst hn
    unfold err at h
    rw [hO.rM] at h
    exact absurd rfl h
theorem parse_ok {t : ByteArray} {ss bs : List ByteArray} {m : ByteArray} (h : prAns ss bs m = (t.data.toList, 0)) : parAns t = (⟨ss, bs, m⟩, 0) := by
  obtain ⟨hO, ht⟩ := ok_of_prAns h
  rw [← ofL_of t, ← ht]
  exact parAns_text hO
theorem parse_bad {t : ByteArray} {n : Nat} (hn : wraps t.size = n) (h : prAns (sals t n) (bods t n) (byT (wM t n)) ≠ (t.data.toList, 0)) : parAns t = (nil, 6) := by
  rcases parAns_cases t with h1 | ⟨ss, bs, m, hO, rfl, _⟩
  · exact h1
  · rw [hO.wraps_eq] at hn
    subst hn
    rw [hO.sals_eq, hO.bods_eq, hO.mac_eq, prAns_ok hO] at h
    exact absurd rfl h
end Hd
end Go.Proofs.Ytpogfcfgbnccjab
namespace Go.Proofs.Ytpogfcfgbnccjab
open Go.RowKit

set_option maxRecDepth 100000 in
set_option maxHeartbeats 3200000 in
theorem pcheck_any (vs vb : Value) (mac : ByteArray) (ss bs : List ByteArray) (w : World) (h1 : Strs w vs ss) (h2 : Strs w vb bs) (hn1 : ss.length ≤ 1099511627776) (hn2 : bs.length ≤ 1099511627776) :
    Calls Try.prog 12 #[.agg #[vs, vb, .string mac]] w fun e w' => e = .returned (.int .i64 (Hd.prAns ss bs mac).2) ∧ Below w.heap.size w w' := by
  obtain ⟨ao, cp, rfl⟩ := h1.len
  obtain ⟨bo, dp, rfl⟩ := h2.len
  obtain ⟨ans, hans⟩ : ∃ a, (Hd.prAns ss bs mac).2 = a := ⟨_, rfl⟩
  rw [hans]
  unfold Hd.prAns at hans
  have hbA : Below w.heap.size w (w.alloc (.cells #[.slice ao ss.length cp, .slice bo bs.length dp, .string mac] 29)) := (Below.refl _ _).alloc (Nat.le_refl _) _
  have hBlk : Blk (w.alloc (.cells #[.slice ao ss.length cp, .slice bo bs.length dp, .string mac] 29)) w.heap.size 29 [.slice ao ss.length cp, .slice bo bs.length dp, .string mac] := Blk.new rfl rfl
  have HS1 := hide h1
  have HS2 := hide h2
  have HANS := hide hans
  clear h1 h2 hans
  obtain ⟨n, hn⟩ : ∃ n : Nat, ss.length = n := ⟨_, rfl⟩
  obtain ⟨nb, hnb⟩ : ∃ n : Nat, bs.length = n := ⟨_, rfl⟩
  have ha := HANS.out
  rw [hn, hnb] at ha
  rw [hn] at hbA hBlk hn1 ⊢
  rw [hnb] at hbA hBlk hn2 ⊢
  have HNN := hide hn
  have HNB := hide hnb
  have HB := hide hbA
  have HBK := hide hBlk
  clear HANS hn hnb hbA hBlk
  by_cases h0 : n = 0
  · have z0 : (decide ((n : Int) < 1)) = true := by simp; omega
    rw [if_pos (.inl h0)] at ha
    subst ha
    clear h0 HS1 HS2 HNN HNB HBK
    go_enter Try.func12, Try.ntmps12
    go_wp2
    go_ret
    exact ⟨rfl, HB.out⟩
  · have z0 : (decide ((n : Int) < 1)) = false := by simp; omega
    by_cases h3 : 3 < n
    · have z3 : (decide ((3 : Int) < (n : Int))) = true := by simp; omega
      rw [if_pos (.inr (.inl h3))] at ha
      subst ha
      clear h0 h3 HS1 HS2 HNN HNB HBK
      go_enter Try.func12, Try.ntmps12
      go_wp2
      go_ret
      exact ⟨rfl, HB.out⟩
    · have z3 : (decide ((3 : Int) < (n : Int))) = false := by simp; omega
      by_cases hb : nb = n
      · subst hb
        have zb : ((nb : Int) != (nb : Int)) = false := by simp
        rw [if_neg (by omega)] at ha
        have HA := hide ha
        clear ha
        go_enter Try.func12, Try.ntmps12
        go_wp2
        go_loopw [4] (fun i wr => ∃ k m : Nat, k ≤ nb ∧ i = .int .i64 (k : Nat) ∧ (∀ j, j < k → (ss.getD j ⟨#[]⟩).size = 16 ∧ (bs.getD j ⟨#[]⟩).size = 32) ∧ wr = (w.alloc (.cells #[.slice ao nb cp, .slice bo nb dp, .string mac] 29)).drewN m) (fun i _ => nb - (intOf i).toNat)
        case atStart => exact ⟨0, 0, Nat.zero_le _, rfl, fun j hj => absurd hj (by omega), rfl⟩
        case round =>
          obtain ⟨k, m, hk, rfl, hgood, rfl⟩ := hrel
          obtain ⟨WA, hWA⟩ : ∃ WA, (w.alloc (.cells #[.slice ao nb cp, .slice bo nb dp, .string mac] 29)).drewN m = WA := ⟨_, rfl⟩
          have hbl : Below w.heap.size w WA := by rw [← hWA]; exact below_drewN HB.out m
          have hbk : Blk WA w.heap.size 29 [.slice ao nb cp, .slice bo nb dp, .string mac] := by rw [← hWA]; exact HBK.out
          rw [hWA]
          have HWA := hide hWA
          have c0 := hbk.cell (i := 0) rfl
          have c1 := hbk.cell (i := 1) rfl
          have c2 := hbk.cell (i := 2) rfl
          have HG := hide hgood
          have HBL := hide hbl
          clear hWA hgood hbk
          by_cases hlt : k < nb
          · obtain ⟨g, o, c, hv1, hgl, e1⟩ := HS1.out.at k (by rw [HNN.out]; exact hlt)
            injection hv1 with hv1 _ _
            subst hv1
            obtain ⟨g2, o2, cc2, hv2, hgl2, e2⟩ := HS2.out.at k (by rw [HNB.out]; exact hlt)
            injection hv2 with hv2 _ _
            subst hv2
            replace e1 := (hbl.cell hgl).trans e1
            replace e2 := (hbl.cell hgl2).trans e2
            have jk : (k : Int) < (nb : Int) := by omega
            obtain ⟨sk, hsk⟩ : ∃ x, ss.getD k ⟨#[]⟩ = x := ⟨_, rfl⟩
            obtain ⟨bk, hbk⟩ : ∃ x, bs.getD k ⟨#[]⟩ = x := ⟨_, rfl⟩
            rw [hsk] at e1
            rw [hbk] at e2
            have HSK := hide hsk
            have HBB := hide hbk
            have HLT := hide hlt
            clear hsk hbk hlt hgl hgl2 hbl
            by_cases hz1 : sk.size = 16
            · by_cases hz2 : bk.size = 32
              · have y1 : ((sk.size : Int) != 16) = false := by rw [hz1]; rfl
                have y2 : ((bk.size : Int) != 32) = false := by rw [hz2]; rfl
                have HZ1 := hide hz1
                have HZ2 := hide hz2
                clear hz1 hz2
                go_wp2
                go_roundw
                case rel =>
                  have hlt := HLT.out
                  refine ⟨k + 1, m, by omega, by go_num, fun j hj => ?_, HWA.out.symm⟩
                  rcases Nat.lt_succ_iff_lt_or_eq.1 hj with h | h
                  · exact HG.out j h
                  · rw [h, HSK.out, HBB.out]; exact ⟨HZ1.out, HZ2.out⟩
                case measure => have hlt := HLT.out; simp [intOf]; omega
              · have y1 : ((sk.size : Int) != 16) = false := by rw [hz1]; rfl
                have y2 : ((bk.size : Int) != 32) = true := by rw [bne_iff_ne]; omega
                have ha := HA.out
                rw [if_pos (.inl ⟨k, HLT.out, .inr (by rw [HBB.out]; exact hz2)⟩)] at ha
                subst ha
                clear hz1 hz2
                go_wp2
                go_ret
                exact ⟨rfl, HBL.out⟩
            · have y1 : ((sk.size : Int) != 16) = true := by rw [bne_iff_ne]; omega
              have ha := HA.out
              rw [if_pos (.inl ⟨k, HLT.out, .inl (by rw [HSK.out]; exact hz1)⟩)] at ha
              subst ha
              clear hz1
              go_wp2
              go_ret
              exact ⟨rfl, HBL.out⟩
          · have hkn : k = nb := by omega
            subst hkn
            by_cases hm : mac.size = 32
            · have ym : ((mac.size : Int) != 32) = false := by rw [hm]; rfl
              have ha := HA.out
              have hgood := HG.out
              rw [if_neg (by
                rintro (⟨i, hi, h⟩ | h)
                · have := hgood i hi
                  omega
                · exact h hm)] at ha
              subst ha
              clear hm hgood hlt hk
              go_wp2
              go_ret
              exact ⟨rfl, HBL.out⟩
            · have ym : ((mac.size : Int) != 32) = true := by rw [bne_iff_ne]; omega
              have ha := HA.out
              rw [if_pos (.inr hm)] at ha
              subst ha
              clear hm hlt hk
              go_wp2
              go_ret
              exact ⟨rfl, HBL.out⟩
      · have zb : ((nb : Int) != (n : Int)) = true := by rw [bne_iff_ne]; omega
        rw [if_pos (.inr (.inr hb))] at ha
        subst ha
        clear h0 h3 hb HS1 HS2 HNN HNB HBK
        go_enter Try.func12, Try.ntmps12
        go_wp2
        go_ret
        exact ⟨rfl, HB.out⟩
end Go.Proofs.Ytpogfcfgbnccjab
