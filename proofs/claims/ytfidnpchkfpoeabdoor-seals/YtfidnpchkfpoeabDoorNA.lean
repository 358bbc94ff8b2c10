import Derived.Test.YtfidnpchkfpoeabDoorC5
namespace Go.Proofs.YtfidnpchkfpoeabDoor
open Go.RowKit

namespace Dig
/-- The number of these digits, the lowest first. -/
def val : List Nat → Nat
  | [] => 0
  | d :: r => d + 256 * val r
def Ok (l : List Nat) : Prop := ∀ d ∈ l, d < 256
theorem val_append : ∀ (l m : List Nat), val (l ++ m) = val l + 256 ^ l.length * val m
  | [], m => by simp [val]
  | d :: r, m => by
    show d + 256 * val (r ++ m) = d + 256 * val r + 256 ^ (r.length + 1) * val m
    rw [val_append r m, Nat.mul_add, Nat.pow_succ, ← Nat.mul_assoc, Nat.mul_comm 256 (256 ^ r.length)]
    omega
theorem val_one (d : Nat) : val [d] = d := by simp [val]
theorem val_snoc (l : List Nat) (d : Nat) : val (l ++ [d]) = val l + 256 ^ l.length * d := by rw [val_append, val_one]
theorem val_take (l : List Nat) (i : Nat) : val (l.take (i + 1)) = val (l.take i) + 256 ^ i * l.getD i 0 := by
  by_cases h : i < l.length
  · rw [List.take_succ_eq_append_getElem h, val_snoc, List.length_take, Nat.min_eq_left (Nat.le_of_lt h), List.getD_eq_getElem?_getD, List.getElem?_eq_getElem h]
    rfl
  · rw [List.take_of_length_le (by omega), List.take_of_length_le (by omega), List.getD_eq_getElem?_getD, List.getElem?_eq_none (by omega)]
    simp
theorem val_all (l : List Nat) (i : Nat) (h : l.length ≤ i) : val (l.take i) = val l := by rw [List.take_of_length_le h]
theorem Ok.at {l : List Nat} (h : Ok l) (i : Nat) : l.getD i 0 < 256 := by
  by_cases hi : i < l.length
  · rw [List.getD_eq_getElem?_getD, List.getElem?_eq_getElem hi]; exact h _ (List.getElem_mem _)
  · rw [List.getD_eq_getElem?_getD, List.getElem?_eq_none (by omega)]; decide
theorem Ok.snoc {l : List Nat} (h : Ok l) {d : Nat} (hd : d < 256) : Ok (l ++ [d]) := fun x hx => by
  rcases List.mem_append.1 hx with h1 | h1
  · exact h x h1
  · rw [List.mem_singleton.1 h1]; exact hd
theorem Ok.lt : ∀ {l : List Nat}, Ok l → val l < 256 ^ l.length
  | [], _ => by simp [val]
  | d :: r, h => by
    have h1 : d < 256 := h d (List.mem_cons_self ..)
    have h2 := Ok.lt (l := r) (fun x hx => h x (List.mem_cons_of_mem _ hx))
    show d + 256 * val r < 256 ^ (r.length + 1)
    rw [Nat.pow_succ]
    omega
end Dig

/-- The slice v has the digits l. -/
def Digs (w : World) (v : Value) (l : List Nat) : Prop := ∃ ao cap, v = .slice ao l.length cap ∧ l.length ≤ cap ∧ cap ≤ maxLen ∧ ∀ i, i < l.length → ∃ g o, ao = some ⟨g, o, none⟩ ∧ w.cell? ⟨g, o + i, none⟩ = some (.int .i64 ((l.getD i 0 : Nat) : Int))
theorem Digs.nil (w : World) : Digs w (.slice none 0 0) [] := ⟨none, 0, rfl, Nat.le_refl _, by decide, fun i hi => absurd hi (Nat.not_lt_zero _)⟩
theorem Digs.below {w w' : World} {v : Value} {l : List Nat} (h : Digs w v l) (hb : Below w.heap.size w w') : Digs w' v l := by
  obtain ⟨ao, cap, h1, h2, h3, h4⟩ := h
  refine ⟨ao, cap, h1, h2, h3, fun i hi => ?_⟩
  obtain ⟨g, o, e1, e2⟩ := h4 i hi
  exact ⟨g, o, e1, by rw [hb.cell (World.block_lt_of_cell? w _ e2)]; exact e2⟩
theorem Digs.drewN {w : World} {v : Value} {l : List Nat} (h : Digs w v l) (m : Nat) : Digs (w.drewN m) v l := h
theorem Digs.of_blk {w : World} {g : Nat} {l : List Nat} (h : Blk w g 3 (i64V l)) (n : Nat) (hn : l.length = n) (hm : n ≤ maxLen) : Digs w (.slice (some ⟨g, 0, none⟩) n n) l :=
  ⟨_, n, by rw [hn], by omega, hm, fun i hi => ⟨g, 0, rfl, by rw [Nat.zero_add]; exact h.cell (i64V_get l i hi)⟩⟩
theorem Digs.of_own {w : World} {base : Nat} {v : Value} {n : Nat} {l : List Nat} (h : w.ownsRow base 3 1 v n (i64V l)) : Digs w v l := by
  have hl : l.length = n := by have := h.1; simpa [i64V] using this
  rcases h.2 with ⟨rfl, h0⟩ | ⟨g, cap, cur, rfl, _, hg, hc, hm, _⟩
  · obtain rfl : l = [] := List.eq_nil_of_length_eq_zero (by omega)
    exact Digs.nil w
  · refine ⟨_, cap, by rw [hl], by omega, hm, fun i hi => ⟨g, 0, rfl, ?_⟩⟩
    have := h.cells (g := g) rfl i _ (i64V_get l i hi)
    rwa [Addr.add_mid] at this

def digitsOf (s : List UInt8) : List Nat := s.map (·.toNat)
theorem digitsOf_ok (s : List UInt8) : Dig.Ok (digitsOf s) := fun d hd => by
  obtain ⟨x, _, rfl⟩ := List.mem_map.1 hd
  exact UInt8.toNat_lt x

end Go.Proofs.YtfidnpchkfpoeabDoor
namespace Go.Proofs.YtfidnpchkfpoeabDoor
open Go.RowKit

theorem add_step (A B P c x y va : Nat) (h : va + P * c = A + B) : va + P * ((c + x + y) % 256) + P * 256 * ((c + x + y) / 256) = A + P * x + (B + P * y) := by
  have h1 := Nat.mod_add_div (c + x + y) 256
  have h2 : P * ((c + x + y) % 256) + P * 256 * ((c + x + y) / 256) = P * (c + x + y) := by
    rw [Nat.mul_assoc, ← Nat.mul_add, h1]
  rw [Nat.mul_add, Nat.mul_add] at h2
  omega

end Go.Proofs.YtfidnpchkfpoeabDoor
namespace Go.Proofs.YtfidnpchkfpoeabDoor
open Go.RowKit

namespace Dig
theorem val_set : ∀ (l : List Nat) (i d : Nat), i < l.length → val (l.set i d) + 256 ^ i * l.getD i 0 = val l + 256 ^ i * d
  | [], i, d, h => absurd h (Nat.not_lt_zero _)
  | x :: r, 0, d, _ => by simp [val]; omega
  | x :: r, i + 1, d, h => by
    have ih := val_set r i d (by simpa using h)
    show x + 256 * val (r.set i d) + 256 ^ (i + 1) * r.getD i 0 = x + 256 * val r + 256 ^ (i + 1) * d
    rw [Nat.pow_succ, Nat.mul_comm (256 ^ i) 256, Nat.mul_assoc, Nat.mul_assoc]
    omega
theorem Ok.set {l : List Nat} (h : Ok l) (i : Nat) {d : Nat} (hd : d < 256) : Ok (l.set i d) := fun x hx => by
  rcases List.mem_or_eq_of_mem_set hx with h1 | h1
  · exact h x h1
  · rw [h1]; exact hd
theorem val_zeros (n : Nat) : val (List.replicate n 0) = 0 := by
  induction n with
  | zero => rfl
  | succ n ih => rw [List.replicate_succ]; show 0 + 256 * val _ = 0; rw [ih]
theorem Ok.zeros (n : Nat) : Ok (List.replicate n 0) := fun d hd => by rw [(List.mem_replicate.1 hd).2]; decide
theorem getD_zeros (n q : Nat) : (List.replicate n 0).getD q 0 = 0 := by
  rw [List.getD_eq_getElem?_getD]
  by_cases h : q < n
  · rw [List.getElem?_replicate_of_lt h]; rfl
  · rw [List.getElem?_eq_none (by simp; omega)]; rfl
theorem getD_set_ne (l : List Nat) (i q d : Nat) (h : i ≠ q) : (l.set i d).getD q 0 = l.getD q 0 := by
  rw [List.getD_eq_getElem?_getD, List.getElem?_set_ne h, ← List.getD_eq_getElem?_getD]
/-- One step of a row of the product. -/
theorem times_step {V W P c x t vl vl' : Nat} (h : vl + P * c = V) (hs : vl' + P * x = vl + P * (t % 256)) (ht : t = c + x + W) : vl' + P * 256 * (t / 256) = V + P * W := by
  have h1 := Nat.mod_add_div t 256
  have h2 : P * (t % 256) + P * 256 * (t / 256) = P * t := by rw [Nat.mul_assoc, ← Nat.mul_add, h1]
  have h3 : P * t = P * c + P * x + P * W := by rw [ht, Nat.mul_add, Nat.mul_add]
  omega
end Dig

theorem times_val (V k j ai bt bj : Nat) : V + 256 ^ k * ai * bt + 256 ^ (k + j) * (ai * bj) = V + 256 ^ k * ai * (bt + 256 ^ j * bj) := by
  rw [Nat.mul_add, Nat.add_assoc, Nat.pow_add]
  congr 2
  rw [Nat.mul_assoc, Nat.mul_assoc, ← Nat.mul_assoc (256 ^ j) ai bj, Nat.mul_comm (256 ^ j) ai, Nat.mul_assoc]
theorem times_row (A I ai B : Nat) : A * B + I * ai * B = (A + I * ai) * B := by rw [Nat.add_mul]
theorem mul_255 {a b : Nat} (ha : a < 256) (hb : b < 256) : a * b ≤ 65025 := Nat.mul_le_mul (show a ≤ 255 by omega) (show b ≤ 255 by omega)

end Go.Proofs.YtfidnpchkfpoeabDoor
namespace Go.Proofs.YtfidnpchkfpoeabDoor
open Go.RowKit

namespace Dig
theorem take_lt {l : List Nat} (h : Ok l) (i : Nat) : val (l.take i) < 256 ^ i := by
  have h1 : Ok (l.take i) := fun d hd => h d (List.mem_of_mem_take hd)
  have h2 := h1.lt
  have h3 : 256 ^ (l.take i).length ≤ 256 ^ i := Nat.pow_le_pow_right (by decide) (by simp; omega)
  omega
/-- Where the highest digits part. -/
theorem less_part {A B a b P x y : Nat} (hd : A + (b + P * y) = B + (a + P * x)) (ha : a < P) (hb : b < P) (hxy : x ≠ y) : decide (A < B) = decide (x < y) := by
  rcases Nat.lt_or_gt_of_ne hxy with h | h
  · have h1 : P * (x + 1) ≤ P * y := Nat.mul_le_mul_left _ h
    rw [Nat.mul_add, Nat.mul_one] at h1
    rw [decide_eq_true h, decide_eq_true (by omega)]
  · have h1 : P * (y + 1) ≤ P * x := Nat.mul_le_mul_left _ h
    rw [Nat.mul_add, Nat.mul_one] at h1
    rw [decide_eq_false (show ¬ x < y by omega), decide_eq_false (by omega)]
theorem val_split (l : List Nat) (i : Nat) : ∃ r, val l = val (l.take i) + 256 ^ i * r := by
  by_cases h : i ≤ l.length
  · refine ⟨val (l.drop i), ?_⟩
    conv => lhs; rw [← List.take_append_drop i l]
    rw [val_append, List.length_take, Nat.min_eq_left h]
  · exact ⟨0, by rw [List.take_of_length_le (by omega)]; simp⟩
end Dig

end Go.Proofs.YtfidnpchkfpoeabDoor
namespace Go.Proofs.YtfidnpchkfpoeabDoor
open Go.RowKit

/-- One digit of the difference. -/
theorem minus_step {A B O P c x y d c' : Nat} (h : A + P * c = O + B) (hd : x + 256 * c' = d + y + c) : A + P * x + P * 256 * c' = O + P * d + (B + P * y) := by
  have h1 : P * (x + 256 * c') = P * (d + y + c) := by rw [hd]
  rw [Nat.mul_add, Nat.mul_add, Nat.mul_add, ← Nat.mul_assoc] at h1
  omega
theorem minus_end {A B b O P c r : Nat} (h : A + P * c = O + b) (hO : O < P) (hB : B = b + P * r) (hle : B ≤ A) (hc : c ≤ 1) : O = A - B := by
  have hc0 : c = 0 := by
    rcases Nat.eq_zero_or_pos c with h0 | h0
    · exact h0
    · have : c = 1 := by omega
      subst this
      rw [Nat.mul_one] at h
      have : b ≤ B := by rw [hB]; exact Nat.le_add_right _ _
      omega
  subst hc0
  rw [Nat.mul_zero, Nat.add_zero] at h
  have hr : r = 0 := by
    rcases Nat.eq_zero_or_pos r with h0 | h0
    · exact h0
    · have h1 : P * 1 ≤ P * r := Nat.mul_le_mul_left _ h0
      omega
  subst hr
  rw [Nat.mul_zero, Nat.add_zero] at hB
  omega

end Go.Proofs.YtfidnpchkfpoeabDoor
namespace Go.Proofs.YtfidnpchkfpoeabDoor
open Go.RowKit

theorem Digs.take {w : World} {g o n cap k : Nat} {l : List Nat} (h : Digs w (.slice (some ⟨g, o, none⟩) n cap) l) (hn : l.length = n) (hk : k ≤ n) : Digs w (.slice (some ⟨g, o, none⟩) k cap) (l.take k) := by
  obtain ⟨ao, cap', h1, h2, h3, h4⟩ := h
  injection h1 with e1 e2 e3
  subst e1 e3
  have hl : (l.take k).length = k := by simp; omega
  refine ⟨_, cap, by rw [hl], by omega, h3, fun i hi => ?_⟩
  obtain ⟨g', o', e4, e5⟩ := h4 i (by omega)
  refine ⟨g', o', e4, ?_⟩
  rw [e5, List.getD_eq_getElem?_getD, List.getD_eq_getElem?_getD, List.getElem?_take, if_pos (by omega)]

end Go.Proofs.YtfidnpchkfpoeabDoor
namespace Go.Proofs.YtfidnpchkfpoeabDoor
open Go.RowKit

theorem bit_step (D x b : Nat) (h : b ≤ 7) : 2 * (D * 2 ^ (8 - (b + 1)) + x / 2 ^ (b + 1)) + x / 2 ^ b % 2 = D * 2 ^ (8 - b) + x / 2 ^ b := by
  rcases (show b = 0 ∨ b = 1 ∨ b = 2 ∨ b = 3 ∨ b = 4 ∨ b = 5 ∨ b = 6 ∨ b = 7 by omega) with rfl | rfl | rfl | rfl | rfl | rfl | rfl | rfl <;> simp <;> omega
theorem mod_twice {Q M bit r : Nat} (hM : 0 < M) (hb : bit ≤ 1) (hr : r = Q % M) : (2 * r + bit < M → 2 * r + bit = (2 * Q + bit) % M) ∧ (¬ 2 * r + bit < M → 2 * r + bit - M = (2 * Q + bit) % M) := by
  have h1 := Nat.mod_add_div Q M
  have h2 : r < M := by rw [hr]; exact Nat.mod_lt _ hM
  have h3 : (2 * Q + bit) % M = (2 * r + bit) % M := by
    rw [← h1, ← hr, show 2 * (r + M * (Q / M)) + bit = 2 * r + bit + M * (2 * (Q / M)) by rw [Nat.mul_add, ← Nat.mul_assoc, ← Nat.mul_assoc, Nat.mul_comm 2 M]; omega, Nat.add_mul_mod_self_left]
  refine ⟨fun h => ?_, fun h => ?_⟩
  · rw [h3, Nat.mod_eq_of_lt h]
  · rw [h3, Nat.mod_eq_sub_mod (by omega), Nat.mod_eq_of_lt (by omega)]
/-- What is trimmed and below M is no longer than M. -/
theorem trim_len {k n v M : Nat} (h : k = 0 ∨ 256 ^ (k - 1) ≤ v) (hv : v < M) (hM : M < 256 ^ n) : k ≤ n := by
  rcases h with h | h
  · omega
  · rcases Nat.lt_or_ge n k with hlt | hge
    · have : 256 ^ n ≤ 256 ^ (k - 1) := Nat.pow_le_pow_right (by decide) (by omega)
      omega
    · exact hge
theorem Dig.val_drop (l : List Nat) (i : Nat) (h : i < l.length) : Dig.val (l.drop i) = l.getD i 0 + 256 * Dig.val (l.drop (i + 1)) := by
  rw [List.drop_eq_getElem_cons h, List.getD_eq_getElem?_getD, List.getElem?_eq_getElem h]
  rfl
theorem Dig.Ok.take {l : List Nat} (h : Dig.Ok l) (i : Nat) : Dig.Ok (l.take i) := fun d hd => h d (List.mem_of_mem_take hd)

end Go.Proofs.YtfidnpchkfpoeabDoor
namespace Go.Proofs.YtfidnpchkfpoeabDoor
open Go.RowKit

/-- The k lowest bytes of v. -/
def leB (v k : Nat) : List UInt8 := (List.range k).map fun i => UInt8.ofNat (v / 256 ^ i % 256)
theorem leB_succ (v k : Nat) : leB v (k + 1) = leB v k ++ [UInt8.ofNat (v / 256 ^ k % 256)] := by simp [leB, List.range_succ]
theorem leB_len (v k : Nat) : (leB v k).length = k := by simp [leB]
theorem Dig.digit_of {l : List Nat} (h : Dig.Ok l) (i : Nat) : l.getD i 0 = Dig.val l / 256 ^ i % 256 := by
  have hp : 0 < 256 ^ i := Nat.pow_pos (by decide)
  by_cases hi : i < l.length
  · have h1 : Dig.val l = Dig.val (l.take i) + 256 ^ i * Dig.val (l.drop i) := by
      conv => lhs; rw [← List.take_append_drop i l]
      rw [Dig.val_append, List.length_take, Nat.min_eq_left (Nat.le_of_lt hi)]
    rw [h1, Nat.add_mul_div_left _ _ hp, Nat.div_eq_of_lt (Dig.take_lt h i), Nat.zero_add, Dig.val_drop l i hi, Nat.add_mul_mod_self_left, Nat.mod_eq_of_lt (h.at i)]
  · have h2 : Dig.val l < 256 ^ i := Nat.lt_of_lt_of_le h.lt (Nat.pow_le_pow_right (by decide) (by omega))
    rw [Nat.div_eq_of_lt h2, List.getD_eq_getElem?_getD, List.getElem?_eq_none (by omega)]
    rfl

end Go.Proofs.YtfidnpchkfpoeabDoor
namespace Go.Proofs.YtfidnpchkfpoeabDoor
open Go.RowKit

namespace Pol
def P : Nat := 2 ^ 130 - 5
def pL : List Nat := 251 :: (List.replicate 15 255 ++ [3])
theorem pL_val : Dig.val pL = P := by decide
theorem pL_ok : Dig.Ok pL := fun d hd => by
  simp [pL] at hd
  omega
/-- One digit of the key's first half. -/
def cl (i x : Nat) : Nat := if i % 4 = 3 then x % 16 else if i % 4 = 0 ∧ 0 < i then x - x % 4 else x
def clL (l : List Nat) (k : Nat) : List Nat := l.mapIdx fun i x => if i < k then cl i x else x
theorem clL_len (l : List Nat) (k : Nat) : (clL l k).length = l.length := by simp [clL]
theorem clL_zero (l : List Nat) : clL l 0 = l := by
  refine List.ext_getElem (by simp [clL]) fun i h1 h2 => ?_
  simp [clL]
theorem clL_at (l : List Nat) (k : Nat) (h : k < l.length) : (clL l k).getD k 0 = l.getD k 0 := by
  rw [List.getD_eq_getElem?_getD, List.getD_eq_getElem?_getD, List.getElem?_eq_getElem (by rw [clL_len]; exact h), List.getElem?_eq_getElem h]
  simp [clL]
theorem clL_succ (l : List Nat) (k : Nat) (h : k < l.length) : (clL l k).set k (cl k (l.getD k 0)) = clL l (k + 1) := by
  refine List.ext_getElem (by simp [clL]) fun i h1 h2 => ?_
  rw [List.getElem_set]
  by_cases hik : k = i
  · subst hik
    rw [if_pos rfl, List.getD_eq_getElem?_getD, List.getElem?_eq_getElem h]
    simp [clL]
  · rw [if_neg hik]
    simp only [clL, List.getElem_mapIdx]
    by_cases hlt : i < k
    · rw [if_pos hlt, if_pos (by omega)]
    · rw [if_neg hlt, if_neg (by omega)]
theorem set_same (l : List Nat) (k x : Nat) (h : l.getD k 0 = x) (hk : k < l.length) : l.set k x = l := by
  rw [← h, List.getD_eq_getElem?_getD, List.getElem?_eq_getElem hk]
  exact List.set_getElem_self hk
theorem cl_le (i x : Nat) : cl i x ≤ x := by
  unfold cl
  split
  · exact Nat.mod_le _ _
  · split
    · omega
    · exact Nat.le_refl _
theorem clL_ok {l : List Nat} (h : Dig.Ok l) (k : Nat) : Dig.Ok (clL l k) := fun d hd => by
  obtain ⟨i, hi, rfl⟩ := List.mem_iff_getElem.1 hd
  have hi2 : i < l.length := by rw [clL_len] at hi; exact hi
  simp only [clL, List.getElem_mapIdx]
  have h1 := h l[i] (List.getElem_mem _)
  have h2 := cl_le i l[i]
  split <;> omega
end Pol

end Go.Proofs.YtfidnpchkfpoeabDoor
namespace Go.Proofs.YtfidnpchkfpoeabDoor
open Go.RowKit

namespace Pol
theorem pL_pos : 0 < Dig.val pL := by rw [pL_val]; unfold P; decide
/-- The number of the j-th sixteen bytes, a byte 1 behind them. -/
def num (text : List UInt8) (j : Nat) : Nat := Dig.val (digitsOf ((text.drop (16 * j)).take 16 ++ [1]))
def acc (r : Nat) (text : List UInt8) : Nat → Nat
  | 0 => 0
  | j + 1 => (acc r text j + num text j) * r % P
def rOf (key : List UInt8) : Nat := Dig.val (clL (digitsOf (key.take 16)) 16)
def sOf (key : List UInt8) : Nat := Dig.val (digitsOf (key.drop 16))
def tag (key text : List UInt8) : List UInt8 := leB (acc (rOf key) text ((text.length + 15) / 16) + sOf key) 16
end Pol

theorem sub_list (a : ByteArray) (i j : Nat) : (a.extract i j).data.toList = (a.data.toList.drop i).take (j - i) := by
  conv => lhs; rw [show a = ⟨a.data.toList.toArray⟩ by simp]
  exact extract_list _ i j
theorem cat_list (a b : ByteArray) : (a ++ b).data.toList = a.data.toList ++ b.data.toList := by simp [ByteArray.data_append]
theorem text_len (a : ByteArray) : a.data.toList.length = a.size := by rw [Array.length_toList]; rfl
theorem cat_size (a b : ByteArray) : (a ++ b).size = a.size + b.size := by rw [← text_len, cat_list, List.length_append, text_len, text_len]
theorem digitsOf_len (l : List UInt8) : (digitsOf l).length = l.length := by simp [digitsOf]
theorem tag_nums (j n : Nat) (h : 16 * j < n) : ∃ i t : Nat, i = 16 * j ∧ t = min (i + 16) n ∧ i < n ∧ i < t ∧ t ≤ i + 16 ∧ t ≤ n := ⟨16 * j, min (16 * j + 16) n, rfl, rfl, h, by omega, by omega, by omega⟩
theorem take_rest (l : List UInt8) (i t n : Nat) (hn : l.length = n) (ht : t = min (i + 16) n) : (l.drop i).take (t - i) = (l.drop i).take 16 := by
  by_cases h : i + 16 ≤ n
  · rw [show t - i = 16 by omega]
  · rw [List.take_of_length_le (by simp; omega), List.take_of_length_le (by simp; omega)]

end Go.Proofs.YtfidnpchkfpoeabDoor
