import Derived.Test.YtfidnpchkfpoeaaGreatDoorBlk2
import Derived.ArgAppend
import Derived.Maps.AppendAt
namespace Go
open Go.RowKit

/-- Block b holds just the cells cs, whatever mark it bears; none of them is frozen. -/
def BlkM (w : World) (b : Nat) (t : TypeId) (cs : List Value) : Prop :=
  ∃ lo hi, w.heap[b]? = some (.cells cs.toArray t (lo, hi)) ∧ ∀ j, j < cs.length → (decide (lo ≤ j) && decide (j < hi)) = false
section
variable {w : World} {b : Nat} {t : TypeId} {cs : List Value}
theorem Blk.marked (h : Blk w b t cs) : BlkM w b t cs := ⟨0, 0, h, fun j _ => by simp⟩
theorem BlkM.lt (h : BlkM w b t cs) : b < w.heap.size := by
  obtain ⟨lo, hi, h, _⟩ := h
  exact (Array.getElem?_eq_some_iff.1 h).1
theorem BlkM.cell (h : BlkM w b t cs) {i : Nat} {v : Value} (hi : cs[i]? = some v) : w.cell? ⟨b, i, none⟩ = some v := by
  obtain ⟨lo, hi', h, _⟩ := h
  rw [cell_of_row w b i cs.toArray t (lo, hi') h]; simpa using hi
theorem BlkM.frozen (h : BlkM w b t cs) {i : Nat} (hi : i < cs.length) : w.frozen? ⟨b, i, none⟩ = false := by
  obtain ⟨lo, hi', h, hf⟩ := h
  have := hf i hi
  unfold World.frozen?
  rw [h]
  exact this
theorem BlkM.grown {w' : World} (h : BlkM w b t cs) {row : Option Nat} (hb : w.grownBy w' row) (hB : some b ≠ row) : BlkM w' b t cs := by
  have hl := h.lt
  obtain ⟨lo, hi, h, hf⟩ := h
  exact ⟨lo, hi, by rw [hb.block b hl hB]; exact h, hf⟩
theorem BlkM.below {w' : World} (h : BlkM w b t cs) {B : Nat} (hb : Below B w w') (hB : b < B) : BlkM w' b t cs := by
  obtain ⟨lo, hi, h, hf⟩ := h
  exact ⟨lo, hi, by rw [hb.block b hB]; exact h, hf⟩
theorem BlkM.alloc (h : BlkM w b t cs) (o : Obj) : BlkM (w.alloc o) b t cs := h.grown (World.grownBy_alloc w o none) (by simp)
theorem BlkM.drew (h : BlkM w b t cs) : BlkM w.drew b t cs := h
theorem BlkM.drewN (h : BlkM w b t cs) (n : Nat) : BlkM (w.drewN n) b t cs := h
theorem BlkM.setCell_same (h : BlkM w b t cs) (i : Nat) (v : Value) : BlkM (w.setCell ⟨b, i, none⟩ v) b t (cs.set i v) := by
  obtain ⟨lo, hi, h, hf⟩ := h
  refine ⟨lo, hi, ?_, by simpa using hf⟩
  unfold World.setCell
  rw [Array.getElem?_modify, if_pos rfl, h]
  simp
theorem BlkM.setCell_other (h : BlkM w b t cs) (a : Addr) (v : Value) (hne : b ≠ a.block) : BlkM (w.setCell a v) b t cs := by
  obtain ⟨lo, hi, h, hf⟩ := h
  exact ⟨lo, hi, by rw [Below.heap_setCell w a v b hne]; exact h, hf⟩
end
theorem BlkM.setCells_same {b : Nat} {t : TypeId} : ∀ (vs : List Value) (cs : List Value) (o : Nat) (w : World), BlkM w b t cs → o + vs.length ≤ cs.length → BlkM (w.setCells b o vs) b t (laidOver cs o vs)
  | [], cs, o, w, h, _ => by simpa [World.setCells, laidOver] using h
  | v :: r, cs, o, w, h, hl => by
    rw [World.setCells]
    have h1 := BlkM.setCells_same r (cs.set o v) (o + 1) _ (h.setCell_same o v) (by simp at hl ⊢; omega)
    have e : laidOver (cs.set o v) (o + 1) r = laidOver cs o (v :: r) := by
      simp only [List.length_cons] at hl
      unfold laidOver
      rw [List.take_succ_eq_append_getElem (by simp; omega), List.getElem_set_self, List.take_set_of_le (Nat.le_refl _), List.drop_set_of_lt (by omega)]
      simp only [List.length_cons, List.append_assoc, List.cons_append, List.nil_append]
      rw [show o + 1 + r.length = o + (r.length + 1) by omega]
    rw [← e]; exact h1

/-- The slice v, of n elements of 'size' cells each, has the cells xs, in a block of its own (from block number 'base' on). -/
def Row (w : World) (base : Nat) (e : TypeId) (size : Nat) (v : Value) (n : Nat) (xs : List Value) : Prop :=
  xs.length = n * size ∧
  ((v = .slice none 0 0 ∧ n = 0) ∨
   ∃ g cap cur, v = .slice (some ⟨g, 0, none⟩) n cap ∧ base ≤ g ∧ BlkM w g e cur ∧ n ≤ cap ∧ cap ≤ maxLen ∧ cur.length = cap * size ∧ cur.take (n * size) = xs)
section
variable {w : World} {base : Nat} {e : TypeId} {size : Nat} {v : Value} {n : Nat} {xs : List Value}
theorem World.ownsRow.row (h : w.ownsRow base e size v n xs) : Row w base e size v n xs := by
  refine ⟨h.1, ?_⟩
  rcases h.2 with hn | ⟨g, cap, cur, rfl, hb, hg, hc, hm, hsz, ht⟩
  · exact .inl hn
  · exact .inr ⟨g, cap, cur.toList, rfl, hb, (show Blk w g e cur.toList by unfold Blk; simpa using hg).marked, hc, hm, by simpa using hsz, ht⟩
theorem Row.nil (w : World) (base : Nat) (e : TypeId) (size : Nat) : Row w base e size (.slice none 0 0) 0 [] := (World.ownsRow_nil w base e size).row
theorem Row.mono {base' : Nat} (h : Row w base e size v n xs) (hb : base' ≤ base) : Row w base' e size v n xs := by
  refine ⟨h.1, ?_⟩
  rcases h.2 with hn | ⟨g, cap, cur, rfl, hg, r⟩
  · exact .inl hn
  · exact .inr ⟨g, cap, cur, rfl, Nat.le_trans hb hg, r⟩
theorem Row.kept {w' : World} {row : Option Nat} (h : Row w base e size v n xs) (hg : w.grownBy w' row) (hne : v.ownBlock = none ∨ v.ownBlock ≠ row) : Row w' base e size v n xs := by
  refine ⟨h.1, ?_⟩
  rcases h.2 with hn | ⟨g, cap, cur, rfl, hb, hgg, r⟩
  · exact .inl hn
  · exact .inr ⟨g, cap, cur, rfl, hb, hgg.grown hg (by simpa [Value.ownBlock] using hne), r⟩
theorem Row.alloc (h : Row w base e size v n xs) (o : Obj) : Row (w.alloc o) base e size v n xs := h.kept (World.grownBy_alloc w o none) (by cases hv : v.ownBlock <;> simp)
theorem Row.drew (h : Row w base e size v n xs) : Row w.drew base e size v n xs := h
theorem Row.drewN (h : Row w base e size v n xs) (m : Nat) : Row (w.drewN m) base e size v n xs := h
theorem Row.lt (h : Row w base e size v n xs) : ∀ k, v.ownBlock = some k → base ≤ k ∧ k < w.heap.size := by
  intro k hk
  rcases h.2 with ⟨rfl, _⟩ | ⟨g, cap, cur, rfl, hb, hg, _⟩
  · simp [Value.ownBlock] at hk
  · simp [Value.ownBlock] at hk
    subst hk
    exact ⟨hb, hg.lt⟩
theorem Row.open (h : Row w base e size v n xs) (hn : 0 < n) : ∃ g cap cur, v = .slice (some ⟨g, 0, none⟩) n cap ∧ base ≤ g ∧ BlkM w g e cur ∧ n ≤ cap ∧ cap ≤ maxLen ∧ cur.length = cap * size ∧ cur.take (n * size) = xs := by
  rcases h.2 with ⟨_, h0⟩ | h
  · omega
  · exact h

theorem run_append_row {P : Program} (t ty : TypeId) (i : TypeInfo) (z : Value) (bytes : Nat) (ht : P.underlying t = some (.slice e)) (hi : P.info? e = some i) (hz : i.zero = some z)
    (hsize : i.size = size) (hby : i.bytes = bytes) (hzs : z.cells.size = size) (hsz : 0 < size) (hown : Row w base e size v n xs)
    (a : Addr) (m c : Nat) (news : List Value) (hl : news.length = m * size) (hnews : ∀ j u, news[j]? = some u → w.cell? (a.add j) = some u) (h1 : ∀ u ∈ news, u.oneCell' = true)
    (h63 : n + m ≤ maxLen) (hbytes : (n + m) * bytes ≤ 140737488355328) (hbase : base ≤ w.heap.size) :
    ∃ v' w', (Builtin.append_ #[t, t] ty #[v, .slice (some a) m c]).run P w = .ok v' w' ∧ Row w' base e size v' (n + m) (xs ++ news) ∧ w.grownBy w' v.ownBlock ∧
      (v'.ownBlock = v.ownBlock ∨ ∃ g, v'.ownBlock = some g ∧ w.heap.size ≤ g) := by
  have hlen : (xs ++ news).length = (n + m) * size := by rw [List.length_append, hown.1, hl, Nat.add_mul]
  rcases hown.2 with ⟨rfl, rfl⟩ | ⟨g, cap, cur, rfl, hb, hg, hc, hm, hcl, htk⟩
  · obtain rfl : xs = [] := List.eq_nil_of_length_eq_zero (by simpa using hown.1)
    obtain ⟨v', w', hr, ho, hgr, _, hat⟩ := run_append_own_at (P := P) w base t ty e i z size bytes ht hi hz hsize hby hzs hsz (.slice none 0 0) 0 [] (World.ownsRow_nil _ _ _ _) a m c news hl hnews h1 h63 hbytes hbase
    exact ⟨v', w', hr, ho.row, hgr, hat.imp id fun h => ⟨_, h, Nat.le_refl _⟩⟩
  · by_cases hroom : n + m ≤ cap
    · have hfit : n * size + news.length ≤ cur.length := by
        rw [hl, hcl, ← Nat.add_mul]; exact Nat.mul_le_mul_right _ hroom
      have hr := run_append_room_cells (P := P) w t ty e i ht hi g 0 n cap a m c news (by rw [hsize]; exact hl) hnews h1 hroom
        (fun j hj => by rw [hg.cell (i := 0 + n * i.size + j) (List.getElem?_eq_getElem (by rw [hsize]; omega))]; rfl)
        (fun j hj => hg.frozen (by rw [hsize]; omega))
      rw [hsize, Nat.zero_add] at hr
      refine ⟨_, _, hr, ⟨hlen, .inr ⟨g, cap, _, rfl, hb, BlkM.setCells_same news cur (n * size) w hg hfit, hroom, hm, ?_, ?_⟩⟩, World.grownBy.setCells _ _ _ (World.grownBy.refl w _), .inl rfl⟩
      · unfold laidOver; simp; omega
      · unfold laidOver
        rw [htk, List.take_append_of_le_length (by rw [hlen]; exact Nat.le_refl _), List.take_of_length_le (by rw [hlen]; exact Nat.le_refl _)]
    · obtain ⟨v', w', hr, ho, hgr⟩ := run_append_arg_grows (P := P) w t ty e i z size bytes ht hi hz hsize hby hzs hsz ⟨g, 0, none⟩ n cap xs hown.1
        (fun j u hu => by
          rw [Addr.add_mid, Nat.zero_add]
          refine hg.cell ?_
          rw [← htk, List.getElem?_take] at hu
          split at hu
          · exact hu
          · cases hu) a m c news hl hnews (by omega) h63 hbytes
      refine ⟨v', w', hr, ho.row.mono hbase, ⟨hgr.os, hgr.tape, hgr.output, hgr.size, fun k hk _ => hgr.block k hk (by simp)⟩, ?_⟩
      cases hv : v'.ownBlock with
      | none => exact .inl (by
          rcases ho.2 with ⟨rfl, h0⟩ | ⟨g', _, _, rfl, _⟩
          · simp at h0; omega
          · simp [Value.ownBlock] at hv)
      | some k => exact .inr ⟨k, rfl, (ho.lt k hv).1⟩
end

theorem wp_append_row {P : Program} {w : World} {base : Nat} {e : TypeId} {size : Nat} {o : Oper} {a : Act} {K : Act → World → Prop} {Q : Exit → Act → World → Prop} (s x : Operand) (t : TypeId)
    (ho : o.op = .call { callee := .builtin .append, args := #[s, x], argTypes := #[t, t] }) (i : TypeInfo) (z : Value) (bytes : Nat) (ht : P.underlying t = some (.slice e)) (hi : P.info? e = some i) (hz : i.zero = some z)
    (hsize : i.size = size) (hby : i.bytes = bytes) (hzs : z.cells.size = size) (hsz : 0 < size) (v : Value) (n : Nat) (xs : List Value) (hs : a.eval s = v) (hown : Row w base e size v n xs)
    (ad : Addr) (m c : Nat) (news : List Value) (hx : a.eval x = .slice (some ad) m c) (hl : news.length = m * size) (hnews : ∀ j u, news[j]? = some u → w.cell? (ad.add j) = some u) (h1 : ∀ u ∈ news, u.oneCell' = true)
    (h63 : n + m ≤ maxLen) (hbytes : (n + m) * bytes ≤ 140737488355328) (hbase : base ≤ w.heap.size)
    (h : ∀ v' w', Row w' base e size v' (n + m) (xs ++ news) → w.grownBy w' v.ownBlock → (v'.ownBlock = v.ownBlock ∨ ∃ g, v'.ownBlock = some g ∧ w.heap.size ≤ g) → K (a.put o.dst v') w') : o.wp P a w K Q := by
  obtain ⟨v', w', hr, h2, h3, h4⟩ := run_append_row (P := P) t o.type i z bytes ht hi hz hsize hby hzs hsz hown ad m c news hl hnews h1 h63 hbytes hbase
  unfold Oper.wp execOp
  simp only [ho, resolve, invoke, builtin, Sem.run_bind, Sem.run_pure, Result.andThen_ok, List.map_toArray, List.map_cons, List.map_nil, hs, hx, hr]
  exact h v' w' h2 h3 h4
end Go
