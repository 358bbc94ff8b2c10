import Derived.Test.YtfidnpchkfpoeabDoorR3
import Derived.Test.YtfidnpchkfpoeabDoorL2
import Derived.Test.YtfidnpchkfpoeabDoorR5
namespace Go.Proofs.YtfidnpchkfpoeabDoor
open Go.RowKit

namespace Cha
/-- v turned to the left by n bits. -/
def rotl (v n : Nat) : Nat := v % 2 ^ (32 - n) * 2 ^ n + v / 2 ^ (32 - n)
theorem rotl_lt (v n : Nat) (hn : n ≤ 32) (hv : v < 4294967296) : rotl v n < 4294967296 := by
  unfold rotl
  have hp : 2 ^ (32 - n) * 2 ^ n = 4294967296 := by rw [← Nat.pow_add, show 32 - n + n = 32 by omega]
  have hq : 0 < 2 ^ (32 - n) := Nat.two_pow_pos _
  have h1 : v / 2 ^ (32 - n) < 2 ^ n := (Nat.div_lt_iff_lt_mul hq).2 (by rw [Nat.mul_comm, hp]; exact hv)
  have h2 : v % 2 ^ (32 - n) + 1 ≤ 2 ^ (32 - n) := Nat.mod_lt _ hq
  have h3 := Nat.mul_le_mul_right (2 ^ n) h2
  rw [hp, Nat.add_mul, Nat.one_mul] at h3
  omega
/-- x[a] += x[b]; x[d] ^= x[a]; x[d] is turned by n. -/
def add1 (x : List Nat) (a b : Nat) : List Nat := x.set a ((x.getD a 0 + x.getD b 0) % 4294967296)
def add2 (x : List Nat) (a d n : Nat) : List Nat := x.set d (rotl (x.getD d 0 ^^^ x.getD a 0) n)
def add (x : List Nat) (a b d n : Nat) : List Nat := add2 (add1 x a b) a d n
def quarter (x : List Nat) (a b c d : Nat) : List Nat := add (add (add (add x a b d 16) c d b 12) a b d 8) c d b 7
/-- Sixteen words. -/
def Ok (x : List Nat) : Prop := x.length = 16 ∧ ∀ v ∈ x, v < 4294967296
theorem Ok.at {x : List Nat} (h : Ok x) (i : Nat) (hi : i < 16) : x.getD i 0 < 4294967296 := by
  rw [List.getD_eq_getElem?_getD, List.getElem?_eq_getElem (by rw [h.1]; exact hi)]
  exact h.2 _ (List.getElem_mem _)
theorem Ok.set {x : List Nat} (h : Ok x) (i v : Nat) (hv : v < 4294967296) : Ok (x.set i v) := ⟨by rw [List.length_set]; exact h.1, fun u hu => by
  rcases List.mem_or_eq_of_mem_set hu with h1 | h1
  · exact h.2 u h1
  · rw [h1]; exact hv⟩
theorem Ok.add1 {x : List Nat} (h : Ok x) (a b : Nat) : Ok (Cha.add1 x a b) := h.set _ _ (Nat.mod_lt _ (by decide))
theorem Ok.add2 {x : List Nat} (h : Ok x) (a d n : Nat) (ha : a < 16) (hd : d < 16) (hn : n ≤ 32) : Ok (Cha.add2 x a d n) := h.set _ _ (rotl_lt _ _ hn (Nat.xor_lt_two_pow (n := 32) (h.at d hd) (h.at a ha)))
theorem Ok.add {x : List Nat} (h : Ok x) (a b d n : Nat) (ha : a < 16) (hd : d < 16) (hn : n ≤ 32) : Ok (Cha.add x a b d n) := (h.add1 a b).add2 a d n ha hd hn
theorem Ok.quarter {x : List Nat} (h : Ok x) (a b c d : Nat) (ha : a < 16) (hb : b < 16) (hc : c < 16) (hd : d < 16) : Ok (Cha.quarter x a b c d) :=
  (((h.add a b d 16 ha hd (by decide)).add c d b 12 hc hb (by decide)).add a b d 8 ha hd (by decide)).add c d b 7 hc hb (by decide)
end Cha

theorem i64V_put (l : List Nat) (i v : Nat) : (i64V l).set i (.int .i64 (v : Int)) = i64V (l.set i v) := by
  unfold i64V
  rw [List.map_set]
theorem i64V_get (l : List Nat) (i : Nat) (h : i < l.length) : (i64V l)[i]? = some (.int .i64 ((l.getD i 0 : Nat) : Int)) := by
  simp [i64V, List.getD, h]

end Go.Proofs.YtfidnpchkfpoeabDoor
namespace Go.Proofs.YtfidnpchkfpoeabDoor
open Go.RowKit

def z16 : List Nat := List.replicate 16 0
theorem splice16 (l : List Nat) (h : l.length = 16) : splice (i64V z16) 0 (i64V l) = i64V l := by
  unfold splice
  rw [List.take_zero, List.nil_append, List.drop_eq_nil_of_le (by simp [i64V, h, z16]), List.append_nil]

/-- The four bytes of s from i on as a number, the lowest first. -/
def Cha.number (s : List UInt8) (i : Nat) : Nat := (s.getD i 0).toNat + 256 * ((s.getD (i + 1) 0).toNat + 256 * ((s.getD (i + 2) 0).toNat + 256 * (s.getD (i + 3) 0).toNat))
theorem Cha.number_lt (s : List UInt8) (i : Nat) : Cha.number s i < 4294967296 := by
  have h1 := UInt8.toNat_lt (s.getD i 0)
  have h2 := UInt8.toNat_lt (s.getD (i + 1) 0)
  have h3 := UInt8.toNat_lt (s.getD (i + 2) 0)
  have h4 := UInt8.toNat_lt (s.getD (i + 3) 0)
  unfold Cha.number
  omega
theorem byte_at (s : ByteArray) (i : Nat) (h : i < s.size) : s[i] = s.data.toList.getD i 0 := by
  have h2 : i < s.data.toList.length := by rw [Array.length_toList]; exact h
  rw [List.getD_eq_getElem?_getD, List.getElem?_eq_getElem h2, Array.getElem_toList]
  rfl

end Go.Proofs.YtfidnpchkfpoeabDoor
namespace Go.Proofs.YtfidnpchkfpoeabDoor
open Go.RowKit

namespace Cha
def sigma : List UInt8 := [101, 120, 112, 97, 110, 100, 32, 51, 50, 45, 98, 121, 116, 101, 32, 107]
def nums (s : List UInt8) (k : Nat) : List Nat := (List.range k).map fun i => number s (4 * i)
theorem nums_succ (s : List UInt8) (k : Nat) : nums s (k + 1) = nums s k ++ [number s (4 * k)] := by simp [nums, List.range_succ]
/-- Sixteen words are written down. -/
def state (key nonce : List UInt8) (n : Nat) : List Nat := nums (sigma ++ key) 12 ++ [n] ++ nums nonce 3
theorem state_ok (key nonce : List UInt8) (n : Nat) (hn : n < 4294967296) : Ok (state key nonce n) := by
  refine ⟨by simp [state, nums], fun v hv => ?_⟩
  unfold state nums at hv
  simp only [List.mem_append, List.mem_map, List.mem_singleton] at hv
  rcases hv with (⟨i, _, rfl⟩ | rfl) | ⟨i, _, rfl⟩
  · exact number_lt _ _
  · exact hn
  · exact number_lt _ _
end Cha
theorem i64V_nums (s : List UInt8) (pre : List Nat) (k : Nat) : i64V (pre ++ Cha.nums s k) ++ [.int .i64 ((Cha.number s (4 * k) : Nat) : Int)] = i64V (pre ++ Cha.nums s (k + 1)) := by
  rw [Cha.nums_succ]
  simp [i64V]

end Go.Proofs.YtfidnpchkfpoeabDoor
namespace Go.Proofs.YtfidnpchkfpoeabDoor
open Go.RowKit

namespace Cha
def col (x : List Nat) (k : Nat) : List Nat := quarter x k (4 + k) (8 + k) (12 + k)
def diag (x : List Nat) (k : Nat) : List Nat := quarter x k (4 + (k + 1) % 4) (8 + (k + 2) % 4) (12 + (k + 3) % 4)
def cols (x : List Nat) : Nat → List Nat
  | 0 => x
  | k + 1 => col (cols x k) k
def diags (x : List Nat) : Nat → List Nat
  | 0 => x
  | k + 1 => diag (diags x k) k
def rounds (x : List Nat) : Nat → List Nat
  | 0 => x
  | r + 1 => diags (cols (rounds x r) 4) 4
theorem Ok.cols {x : List Nat} (h : Ok x) : ∀ k, k ≤ 4 → Ok (Cha.cols x k)
  | 0, _ => h
  | k + 1, hk => (Ok.cols h k (by omega)).quarter _ _ _ _ (by omega) (by omega) (by omega) (by omega)
theorem Ok.diags {x : List Nat} (h : Ok x) : ∀ k, k ≤ 4 → Ok (Cha.diags x k)
  | 0, _ => h
  | k + 1, hk => (Ok.diags h k (by omega)).quarter _ _ _ _ (by omega) (by omega) (by omega) (by omega)
theorem Ok.rounds {x : List Nat} (h : Ok x) : ∀ r, Ok (Cha.rounds x r)
  | 0 => h
  | r + 1 => ((Ok.rounds h r).cols 4 (by omega)).diags 4 (by omega)
def sumW (x s : List Nat) (i : Nat) : Nat := (x.getD i 0 + s.getD i 0) % 4294967296
def leB (v b : Nat) : List UInt8 := (List.range b).map fun j => UInt8.ofNat (v / 256 ^ j)
theorem leB_succ (v b : Nat) : leB v (b + 1) = leB v b ++ [UInt8.ofNat (v / 256 ^ b)] := by simp [leB, List.range_succ]
def outs (x s : List Nat) (k : Nat) : List UInt8 := (List.range k).flatMap fun i => leB (sumW x s i) 4
theorem outs_succ (x s : List Nat) (k : Nat) : outs x s (k + 1) = outs x s k ++ leB (sumW x s k) 4 := by simp [outs, List.range_succ]
theorem outs_len (x s : List Nat) : ∀ k, (outs x s k).length = 4 * k
  | 0 => rfl
  | k + 1 => by rw [outs_succ, List.length_append, outs_len x s k]; simp [leB]; omega
theorem cols_succ (x : List Nat) (k : Nat) : cols x (k + 1) = quarter (cols x k) k (4 + k) (8 + k) (12 + k) := rfl
theorem diags_succ (x : List Nat) (k : Nat) : diags x (k + 1) = quarter (diags x k) k (4 + (k + 1) % 4) (8 + (k + 2) % 4) (12 + (k + 3) % 4) := rfl
/-- The block. -/
def block (key nonce : List UInt8) (n : Nat) : List UInt8 := outs (rounds (state key nonce n) 10) (state key nonce n) 16
theorem block_len (key nonce : List UInt8) (n : Nat) : (block key nonce n).length = 64 := outs_len _ _ 16
end Cha

theorem diag_nums (j : Nat) (hj : j < 4) : ∃ s1 r1 ib s2 r2 ic s3 r3 id : Nat, IntKind.i64.wrap ((j : Int) + 1) = (s1 : Int) ∧ (s1 : Int).tmod 4 = (r1 : Int) ∧ IntKind.i64.wrap (4 + (r1 : Int)) = (ib : Int) ∧
    IntKind.i64.wrap ((j : Int) + 2) = (s2 : Int) ∧ (s2 : Int).tmod 4 = (r2 : Int) ∧ IntKind.i64.wrap (8 + (r2 : Int)) = (ic : Int) ∧ IntKind.i64.wrap ((j : Int) + 3) = (s3 : Int) ∧ (s3 : Int).tmod 4 = (r3 : Int) ∧ IntKind.i64.wrap (12 + (r3 : Int)) = (id : Int) ∧
    s1 = j + 1 ∧ ib < 16 ∧ ic < 16 ∧ id < 16 ∧ ib = 4 + (j + 1) % 4 ∧ ic = 8 + (j + 2) % 4 ∧ id = 12 + (j + 3) % 4 := by
  refine ⟨j + 1, (j + 1) % 4, 4 + (j + 1) % 4, j + 2, (j + 2) % 4, 8 + (j + 2) % 4, j + 3, (j + 3) % 4, 12 + (j + 3) % 4, ?_, ?_, ?_, ?_, ?_, ?_, ?_, ?_, ?_, rfl, by omega, by omega, by omega, rfl, rfl, rfl⟩
  · exact (IntWalk.i64_in _ (by omega)).trans (by omega)
  · rw [Int.tmod_eq_emod_of_nonneg (by omega)]; omega
  · exact (IntWalk.i64_in _ (by omega)).trans (by omega)
  · exact (IntWalk.i64_in _ (by omega)).trans (by omega)
  · rw [Int.tmod_eq_emod_of_nonneg (by omega)]; omega
  · exact (IntWalk.i64_in _ (by omega)).trans (by omega)
  · exact (IntWalk.i64_in _ (by omega)).trans (by omega)
  · rw [Int.tmod_eq_emod_of_nonneg (by omega)]; omega
  · exact (IntWalk.i64_in _ (by omega)).trans (by omega)
theorem own_cells {w : World} {base : Nat} {v : Value} {n : Nat} {l : List Nat} (h : w.ownsRow base 3 1 v n (i64V l)) (hn : 0 < n) : ∃ g cap, v = .slice (some ⟨g, 0, none⟩) n cap ∧ g < w.heap.size ∧ n ≤ cap ∧ cap ≤ maxLen ∧ ∀ j u, (i64V l)[j]? = some u → w.cell? ⟨g, j, none⟩ = some u := by
  rcases h.2 with ⟨_, h0⟩ | ⟨g, cap, cur, rfl, _, hg, hc, hm, _⟩
  · omega
  · refine ⟨g, cap, rfl, (Array.getElem?_eq_some_iff.1 hg).1, hc, hm, fun j u hu => ?_⟩
    have := h.cells (g := g) rfl j u hu
    rwa [Addr.add_mid, Nat.zero_add] at this

end Go.Proofs.YtfidnpchkfpoeabDoor
namespace Go.Proofs.YtfidnpchkfpoeabDoor
open Go.RowKit

theorem u8x (x c : UInt8) : bits .xor .u8 ((x.toNat : Nat) : Int) ((c.toNat : Nat) : Int) = (((x ^^^ c).toNat : Nat) : Int) := by
  rw [u8_xor_nat _ _ (UInt8.toNat_lt x) (UInt8.toNat_lt c), UInt8.toNat_xor]
theorem step_append_u8 {ops : Array Oper} {o : Oper} {a : Act} {w : World} {K : Act → World → Prop} {Q : Exit → Act → World → Prop} {E : Prop} (hgd : o.guard = none) (s x : Operand)
    (ho : o.op = .call { callee := .builtin .append, args := #[s, x], argTypes := #[30, 30] })
    (base : Nat) (v : Value) (n : Nat) (xs : List UInt8) (hs : a.eval s = v) (hown : Row w base 5 1 v n (u8L xs))
    (ad : Addr) (m c : Nat) (news : List UInt8) (hx : a.eval x = .slice (some ad) m c) (hl : news.length = m) (hnew : ∀ j u, (u8L news)[j]? = some u → w.cell? (ad.add j) = some u) (hn : n + m ≤ 1099511627776) (hbase : base ≤ w.heap.size)
    (h : ∀ v' w', Row w' base 5 1 v' (n + m) (u8L (xs ++ news)) → w.grownBy w' v.ownBlock → (v'.ownBlock = v.ownBlock ∨ ∃ g, v'.ownBlock = some g ∧ w.heap.size ≤ g) → K (a.put o.dst v') w') :
    if Region.wanted o (yielded ops a.tmps) = true then Oper.wp Tryd.prog o a w K Q else E := by
  rw [if_pos (by simp [Region.wanted, hgd])]
  obtain ⟨i0, hi, hz0, hz1, hz2⟩ := info_parts infoU8
  refine wp_append_row s x 30 ho i0 (.int .u8 0) 1 Tryd.underlying30 hi hz0 hz1 hz2 rfl (by decide) v n (u8L xs) hs hown ad m c (u8L news) hx (by simp [u8L, hl]) hnew (u8L_one _) ?_ ?_ hbase ?_
  · unfold maxLen; omega
  · omega
  · intro v' w' h1 h2 h3
    exact h v' w' (by rw [u8L_append]; exact h1) h2 h3

namespace Cha
def ks (key nonce : List UInt8) (n p : Nat) : UInt8 := (block key nonce (n + p / 64)).getD (p % 64) 0
def xorL (key nonce : List UInt8) (n from_ : Nat) (text : List UInt8) (k : Nat) : List UInt8 := (List.range k).map fun i => text.getD i 0 ^^^ ks key nonce n (from_ + i)
theorem xorL_succ (key nonce : List UInt8) (n from_ : Nat) (text : List UInt8) (k : Nat) : xorL key nonce n from_ text (k + 1) = xorL key nonce n from_ text k ++ [text.getD k 0 ^^^ ks key nonce n (from_ + k)] := by simp [xorL, List.range_succ]
end Cha

theorem xor_nums (n from_ i : Nat) (hf : from_ ≤ 274877906944) (h : n + (from_ + i) / 64 ≤ 4294967295) : ∃ p ix pq nb : Nat, p = from_ + i ∧ ix = p % 64 ∧ nb = n + p / 64 ∧
    IntKind.i64.wrap ((from_ : Int) + (i : Int)) = (p : Int) ∧ (p : Int).tmod 64 = (ix : Int) ∧ (p : Int).tdiv 64 = (pq : Int) ∧ IntKind.i64.wrap ((n : Int) + (pq : Int)) = (nb : Int) ∧ wrap64 (pq : Int) = (pq : Int) ∧ wrap64 ((n : Int) + (pq : Int)) = (nb : Int) ∧ ix < 64 ∧ nb ≤ 4294967295 := by
  refine ⟨from_ + i, (from_ + i) % 64, (from_ + i) / 64, n + (from_ + i) / 64, rfl, rfl, rfl, ?_, ?_, ?_, ?_, ?_, ?_, Nat.mod_lt _ (by decide), h⟩
  · exact (IntWalk.i64_in _ (by omega)).trans (by omega)
  · rw [Int.tmod_eq_emod_of_nonneg (by omega)]; omega
  · rw [Int.tdiv_eq_ediv_of_nonneg (by omega)]; omega
  · exact (IntWalk.i64_in _ (by omega)).trans (by omega)
  · exact IntWalk.wrap64_in _ (by omega)
  · exact (IntWalk.wrap64_in _ (by omega)).trans (by omega)
theorem same_block (n from_ i nb p : Nat) (hp : p = from_ + i) (hnb : nb = n + p / 64) (hix : p % 64 ≠ 0) : n + (from_ + i - 1) / 64 = nb := by omega

end Go.Proofs.YtfidnpchkfpoeabDoor
