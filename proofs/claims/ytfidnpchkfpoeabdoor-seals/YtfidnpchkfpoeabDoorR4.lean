import Derived.Test.YtfidnpchkfpoeabDoorR3
import Derived.Test.YtfidnpchkfpoeabDoorRH
import Derived.Test.YtfidnpchkfpoeabDoorRow
import Derived.Laws.IdiomStrings
import Derived.Laws.AppendOwnNone
namespace Go.Proofs.YtfidnpchkfpoeabDoor
open Go.RowKit

def u8L (l : List UInt8) : List Value := l.map fun x : UInt8 => Value.int .u8 ((x.toNat : Nat) : Int)
theorem u8L_append (l m : List UInt8) : u8L (l ++ m) = u8L l ++ u8L m := by simp [u8L]
theorem u8L_one (l : List UInt8) : ∀ v ∈ u8L l, v.oneCell' = true := by
  intro v hv
  obtain ⟨x, _, rfl⟩ := List.mem_map.1 hv
  rfl
theorem infoU8 : (Tryd.prog.info? 5).map (fun i => (i.zero, i.size, i.bytes)) = some (some (.int .u8 0), 1, 1) := by kernel_rfl

/-- append(s, x...) of bytes that lie somewhere. -/
theorem wpList_append_u8 {ops : Array Oper} {rest : List Oper} {o : Oper} {a : Act} {w : World} {Q : Exit → Act → World → Prop} (hgd : o.guard = none) (s x : Operand)
    (ho : o.op = .call { callee := .builtin .append, args := #[s, x], argTypes := #[30, 30] })
    (base : Nat) (v : Value) (n : Nat) (xs : List UInt8) (hs : a.eval s = v) (hown : Row w base 5 1 v n (u8L xs))
    (ad : Addr) (m c : Nat) (news : List UInt8) (hx : a.eval x = .slice (some ad) m c) (hl : news.length = m) (hnew : ∀ j u, (u8L news)[j]? = some u → w.cell? (ad.add j) = some u) (hn : n + m ≤ 1099511627776) (hbase : base ≤ w.heap.size)
    (h : ∀ v' w', Row w' base 5 1 v' (n + m) (u8L (xs ++ news)) → w.grownBy w' v.ownBlock → (v'.ownBlock = v.ownBlock ∨ ∃ g, v'.ownBlock = some g ∧ w.heap.size ≤ g) → wpList Tryd.prog ops Q rest (a.put o.dst v') w') : wpList Tryd.prog ops Q (o :: rest) a w := by
  obtain ⟨i0, hi, hz0, hz1, hz2⟩ := info_parts infoU8
  refine wpList_plain hgd fun _ hK => ?_
  refine wp_append_row s x 30 ho i0 (.int .u8 0) 1 Tryd.underlying30 hi hz0 hz1 hz2 rfl (by decide) v n (u8L xs) hs hown ad m c (u8L news) hx (by simp [u8L, hl]) hnew (u8L_one _) ?_ ?_ hbase ?_
  · unfold maxLen; omega
  · omega
  · intro v' w' h1 h2 h3
    exact hK _ _ (h v' w' (by rw [u8L_append]; exact h1) h2 h3)

theorem bytesRow_list (s : ByteArray) (cap : Nat) : (bytesRow s cap).toList = u8L s.data.toList ++ List.replicate (cap - s.size) (.int .u8 0) := by
  unfold bytesRow u8L
  simp
theorem row_bytes (s : ByteArray) (w : World) (cap : Nat) (hc : s.size ≤ cap) (hm : cap ≤ maxLen) :
    Row (w.drew.alloc (.cells (bytesRow s cap) 5 ((bytesRow s cap).size, (bytesRow s cap).size + 1))) w.heap.size 5 1 (.slice (some ⟨w.heap.size, 0, none⟩) s.size cap) s.size (u8L s.data.toList) := by
  have hsz : s.data.toList.length = s.size := by rw [Array.length_toList]; rfl
  have hl : (bytesRow s cap).toList.length = cap := by rw [bytesRow_list]; simp [u8L, hsz]; omega
  refine ⟨by simp [u8L, hsz], .inr ⟨w.heap.size, cap, (bytesRow s cap).toList, rfl, Nat.le_refl _, ⟨_, _, heap_alloc_new w.drew _, ?_⟩, hc, hm, by rw [hl]; omega, ?_⟩⟩
  · intro j hj
    have : j < (bytesRow s cap).size := by simpa using hj
    simp; omega
  · rw [bytesRow_list, Nat.mul_one, List.take_left' (by simp [u8L, hsz])]

def vlen : Value → Nat
  | .slice _ n _ => n
  | _ => 0

theorem gap_more (L j : Nat) (h : j < Sha.gap L) : (L + 1 + j) % 64 ≠ 56 := by unfold Sha.gap at h; omega
theorem gap_end (L : Nat) : (L + 1 + Sha.gap L) % 64 = 56 := by unfold Sha.gap; omega
theorem gap_lt (L : Nat) : Sha.gap L < 64 := by unfold Sha.gap; omega
theorem zeros_snoc (n : Nat) : Sha.zeros n ++ [0] = Sha.zeros (n + 1) := by
  unfold Sha.zeros; rw [List.replicate_succ']
theorem one_news {w : World} {g : Nat} {x : UInt8} {v : Int} (hv : v = (x.toNat : Nat)) (h : w.cell? ⟨g, 0, none⟩ = some (.int .u8 v)) : ∀ j u, (u8L [x])[j]? = some u → w.cell? ((⟨g, 0, none⟩ : Addr).add j) = some u := by
  intro j u hj
  match j, hj with
  | 0, hj => simp [u8L] at hj; subst hj; subst hv; rw [Addr.add_mid]; exact h
theorem row_news {w : World} {base : Nat} {v : Value} {l : List UInt8} {g cap n : Nat} (h : Row w base 5 1 v n (u8L l)) (hv : v = .slice (some ⟨g, 0, none⟩) n cap) : ∀ j u, (u8L l)[j]? = some u → w.cell? ((⟨g, 0, none⟩ : Addr).add j) = some u := by
  intro j u hj
  rcases h.2 with ⟨h0, _⟩ | ⟨g', cap', cur, h1, _, hB, _, _, _, htk⟩
  · rw [hv] at h0; cases h0
  · rw [hv] at h1
    injection h1 with e1 _ _
    injection e1 with e2
    injection e2 with e3
    subst e3
    rw [Addr.add_mid, Nat.zero_add]
    exact hB.cell (take_at htk hj)
def tailK (N k : Nat) : List UInt8 := (Sha.be64 N).drop (8 - k)
theorem tailK_succ (N k : Nat) (hk : k < 8) : UInt8.ofNat (N / 256 ^ k) :: tailK N k = tailK N (k + 1) :=
  match k, hk with
  | 0, _ => by simp [tailK, Sha.be64]
  | 1, _ => by simp [tailK, Sha.be64]
  | 2, _ => by simp [tailK, Sha.be64]
  | 3, _ => by simp [tailK, Sha.be64]
  | 4, _ => by simp [tailK, Sha.be64]
  | 5, _ => by simp [tailK, Sha.be64]
  | 6, _ => by simp [tailK, Sha.be64]
  | 7, _ => by simp [tailK, Sha.be64]
  | n + 8, h => absurd h (by omega)
theorem ofNat_mod (x : Nat) : (UInt8.ofNat x).toNat = x % 256 := by simp
theorem Row.str {w : World} {base : Nat} {l : List UInt8} {v : Value} {n : Nat} (h : Row w base 5 1 v n (u8L l)) (hn : 0 < n) : ∃ g cap, v = .slice (some ⟨g, 0, none⟩) n cap ∧ (convert 30 9 v).run Tryd.prog w = .ok (.string ⟨l.toArray⟩) w := by
  obtain ⟨g, cap, cur, rfl, _, hB, _, _, _, htk⟩ := h.open hn
  have hl : l.length = n := by have := h.1; simpa [u8L] using this
  refine ⟨g, cap, rfl, ?_⟩
  rw [← hl]
  refine run_convert_bytes_back w 30 9 5 ⟨g, 0, none⟩ cap l Tryd.underlying30 Tryd.underlying5 Tryd.underlying9 (fun j hj => ?_)
  rw [Addr.add_mid, Nat.zero_add]
  exact hB.cell (take_at htk (by simp [u8L, hj]))

theorem Row.vlen {w : World} {base : Nat} {e : TypeId} {size : Nat} {v : Value} {n : Nat} {xs : List Value} (h : Row w base e size v n xs) : Proofs.YtfidnpchkfpoeabDoor.vlen v = n := by
  rcases h.2 with ⟨rfl, rfl⟩ | ⟨g, cap, cur, rfl, _⟩ <;> rfl
theorem infoU8i : ∃ i, Tryd.prog.info? 5 = some i := by
  obtain ⟨i, h, _⟩ := info_parts infoU8
  exact ⟨i, h⟩
theorem fresh_own {w : World} {v : Value} : (w.alloc (.cells #[v] 5)).ownsRow w.heap.size 5 1 (.slice (some ⟨w.heap.size, 0, none⟩) 1 1) 1 [v] :=
  ⟨rfl, .inr ⟨w.heap.size, 1, #[v], rfl, Nat.le_refl _, heap_alloc_new w _, Nat.le_refl _, by decide, rfl, rfl⟩⟩

end Go.Proofs.YtfidnpchkfpoeabDoor
