import Derived.Test.YtfidnpchkfpoeaaGreatDoorR3
import Derived.Test.YtfidnpchkfpoeaaGreatDoorL2
import Derived.Test.YtfidnpchkfpoeaaGreatDoorR5
namespace Go.Proofs.YtfidnpchkfpoeaaGreatDoor
open Go.RowKit

namespace Cha
/-- v turned to the left by n bits. -/
def rotl (v n : Nat) : Nat := v % 2 ^ (32 - n) * 2 ^ n + v / 2 ^ (32 - n)
theorem rotl_lt (v n : Nat) (hn : n ≤ 32) (hv : v < 4294967296) : rotl v n < 4294967296 := by
  unfold rotl
  have hp : 2 ^ (32 - n) * 2 ^ n = 4294967296 := by rw [← Nat.pow_add, show 32 - n + n = 32 by omega]
  have hq : 0 < 2 ^ (32 - n) := Nat.two_pow_pos _
  have h1 : v / 2 ^ (32 - n) < 2 ^ n := (Nat.div_lt_iff_lt_mul hq).2 (by rw [Nat.mul_comm, hp]; exact hv)
  have h2 : v % 2 ^ (32 - n) + 1 ≤ 2 ^ (32 - n) := Nat.mod_lt _ hq
  have h3 := Nat.mul_le_mul_right (2 ^ n) h2
  rw [hp, Nat.add_mul, Nat.one_mul] at h3
  omega
/-- x[a] += x[b]; x[d] ^= x[a]; x[d] is turned by n. -/
def add1 (x : List Nat) (a b : Nat) : List Nat := x.set a ((x.getD a 0 + x.getD b 0) % 4294967296)
def add2 (x : List Nat) (a d n : Nat) : List Nat := x.set d (rotl (x.getD d 0 ^^^ x.getD a 0) n)
def add (x : List Nat) (a b d n : Nat) : List Nat := add2 (add1 x a b) a d n
def quarter (x : List Nat) (a b c d : Nat) : List Nat := add (add (add (add x a b d 16) c d b 12) a b d 8) c d b 7
/-- Sixteen words. -/
def Ok (x : List Nat) : Prop := x.length = 16 ∧ ∀ v ∈ x, v < 4294967296
theorem Ok.at {x : List Nat} (h : Ok x) (i : Nat) (hi : i < 16) : x.getD i 0 < 4294967296 := by
  rw [List.getD_eq_getElem?_getD, List.getElem?_eq_getElem (by rw [h.1]; exact hi)]
  exact h.2 _ (List.getElem_mem _)
theorem Ok.set {x : List Nat} (h : Ok x) (i v : Nat) (hv : v < 4294967296) : Ok (x.set i v) := ⟨by rw [List.length_set]; exact h.1, fun u hu => by
  rcases List.mem_or_eq_of_mem_set hu with h1 | h1
  · exact h.2 u h1
  · rw [h1]; exact hv⟩
theorem Ok.add1 {x : List Nat} (h : Ok x) (a b : Nat) : Ok (Cha.add1 x a b) := h.set _ _ (Nat.mod_lt _ (by decide))
theorem Ok.add2 {x : List Nat} (h : Ok x) (a d n : Nat) (ha : a < 16) (hd : d < 16) (hn : n ≤ 32) : Ok (Cha.add2 x a d n) := h.set _ _ (rotl_lt _ _ hn (Nat.xor_lt_two_pow (n := 32) (h.at d hd) (h.at a ha)))
theorem Ok.add {x : List Nat} (h : Ok x) (a b d n : Nat) (ha : a < 16) (hd : d < 16) (hn : n ≤ 32) : Ok (Cha.add x a b d n) := (h.add1 a b).add2 a d n ha hd hn
theorem Ok.quarter {x : List Nat} (h : Ok x) (a b c d : Nat) (ha : a < 16) (hb : b < 16) (hc : c < 16) (hd : d < 16) : Ok (Cha.quarter x a b c d) :=
  (((h.add a b d 16 ha hd (by decide)).add c d b 12 hc hb (by decide)).add a b d 8 ha hd (by decide)).add c d b 7 hc hb (by decide)
end Cha

set_option maxHeartbeats 400000 in
theorem chaTurn_any (v n : Nat) (w : World) (hv : v < 4294967296) (hn : n ≤ 32) :
    Calls Tryz.prog 187 #[.int .i64 v, .int .i64 n] w fun e w' => e = .returned (.int .i64 (Cha.rotl v n : Nat)) ∧ ∃ m, w' = w.drewN m := by
  go_enter Tryz.func187, Tryz.ntmps187
  go_wp2
  go_loop [1, 5, 6] (fun c p q => ∃ k j P R : Nat, k + j = n ∧ c = .int .i64 (j : Nat) ∧ P = pw k ∧ p = .int .i64 (P : Nat) ∧ R = pw (32 - k) ∧ q = .int .i64 (R : Nat)) (fun c _ _ => (intOf c).toNat)
  case atStart => exact ⟨0, n, 1, 4294967296, by omega, rfl, rfl, rfl, rfl, rfl⟩
  case round =>
    obtain ⟨k, j, P, R, hk, rfl, hP, rfl, hR, rfl⟩ := hrel
    have hb := pow_small k (by omega)
    have hb2 := pow_small (32 - k) (by omega)
    rw [← hP] at hb
    rw [← hR] at hb2
    by_cases hj : 0 < j
    · have hj40 : j ≤ 40 := by omega
      have hR2 : R / 2 = pw (32 - (k + 1)) := by
        rw [hR, show 32 - k = 32 - (k + 1) + 1 by omega, pw, pw, Nat.pow_succ, Nat.mul_div_cancel _ (by decide)]
      have t1 : (R : Int).tdiv 2 = ((R / 2 : Nat) : Int) := by rw [Int.tdiv_eq_ediv_of_nonneg (by omega)]; omega
      have HK := hide hk
      have HP := hide hP
      have HR2 := hide hR2
      clear hP hR hk hR2
      go_wp2
      go_round
      case rel => exact ⟨k + 1, j - 1, 2 * P, R / 2, by have := HK.out; omega, by go_num, by rw [HP.out, pw, pw, Nat.pow_succ]; omega, by go_num, HR2.out, by first | rfl | go_num⟩
      case measure => simp [intOf]; omega
    · have hj0 : j = 0 := by omega
      subst hj0
      have hkn : k = n := by omega
      subst hkn
      have hlt := Cha.rotl_lt v k hn hv
      have hr : Cha.rotl v k = v % R * P + v / R := by rw [hP, hR]; rfl
      have hR0 : 0 < R := by rw [hR]; exact Nat.two_pow_pos _
      have hd : v / R ≤ v := Nat.div_le_self _ _
      rw [hr] at hlt
      have HRR := hide hr
      clear hP hR hk hr
      have hm : ((v : Int) % (R : Int) * (P : Int)) = ((v % R * P : Nat) : Int) := by rw [Int.natCast_mul, Int.natCast_emod]
      have hdd : ((v : Int) / (R : Int)) = ((v / R : Nat) : Int) := by rw [Int.natCast_ediv]
      generalize v % R * P = m at *
      generalize v / R = dv at *
      have z1 : ((R : Int) == 0) = false := beq_eq_false_iff_ne.2 (by omega)
      have z2 : (v : Int).tdiv (R : Int) = (dv : Int) := by rw [Int.tdiv_eq_ediv_of_nonneg (by omega)]; exact hdd
      have z3 : (v : Int).tmod (R : Int) * (P : Int) = (m : Int) := by rw [Int.tmod_eq_emod_of_nonneg (by omega)]; exact hm
      go_wp2
      go_quiet (fail)
      go_wp2
      go_ret
      exact ⟨ret_int (by rw [HRR.out]; omega), _, rfl⟩

theorem i64V_put (l : List Nat) (i v : Nat) : (i64V l).set i (.int .i64 (v : Int)) = i64V (l.set i v) := by
  unfold i64V
  rw [List.map_set]
theorem i64V_get (l : List Nat) (i : Nat) (h : i < l.length) : (i64V l)[i]? = some (.int .i64 ((l.getD i 0 : Nat) : Int)) := by
  simp [i64V, List.getD, h]

set_option maxRecDepth 100000 in
set_option maxHeartbeats 800000 in
theorem chaAdd_any (g : Nat) (l : List Nat) (a b d n : Nat) (w : World) (hl : Cha.Ok l) (hB : Blk w g 3 (i64V l)) (ha : a < 16) (hb : b < 16) (hd : d < 16) (hn : n ≤ 32) :
    Calls Tryz.prog 159 #[.slice (some ⟨g, 0, none⟩) 16 16, .int .i64 (a : Nat), .int .i64 (b : Nat), .int .i64 (d : Nat), .int .i64 (n : Nat)] w fun e w' => e = .returned (.tuple #[]) ∧ Blk w' g 3 (i64V (Cha.add l a b d n)) ∧ w.grownBy w' (some g) := by
  have hlen := hl.1
  have ca := hB.cell (i64V_get l a (by omega))
  have cb := hB.cell (i64V_get l b (by omega))
  have fa := hB.frozen a
  have xa := hl.at a ha
  have xb := hl.at b hb
  have h1 := hl.add1 a b
  have hdef : Cha.add l a b d n = Cha.add2 (Cha.add1 l a b) a d n := rfl
  have hB1 : Blk (w.setCell ⟨g, a, none⟩ (.int .i64 (((l.getD a 0 + l.getD b 0) % 4294967296 : Nat) : Int))) g 3 (i64V (Cha.add1 l a b)) := by
    have h := hB.setCell_same a (.int .i64 (((l.getD a 0 + l.getD b 0) % 4294967296 : Nat) : Int))
    rw [i64V_put] at h
    exact h
  generalize Cha.add1 l a b = l1 at *
  generalize l.getD a 0 = va at *
  generalize l.getD b 0 = vb at *
  have t0 : IntKind.i64.wrap ((va : Int) + (vb : Int)) = (va : Int) + (vb : Int) := IntWalk.i64_in _ (by omega)
  have t1 : ((va : Int) + (vb : Int)).tmod 4294967296 = (((va + vb) % 4294967296 : Nat) : Int) := by rw [Int.tmod_eq_emod_of_nonneg (by omega)]; omega
  generalize (va + vb) % 4294967296 = vs at *
  have ja : (a : Int) < 16 := by omega
  have jb : (b : Int) < 16 := by omega
  have jd : (d : Int) < 16 := by omega
  have HB1 := hide hB1
  have HG1 := hide (World.grownBy.setCell (World.grownBy.refl w (some g)) a (.int .i64 (vs : Int)))
  have HD := hide hdef
  have HL1 := hide h1
  clear hB1 hdef hB hl h1 hlen
  go_enter Tryz.func159, Tryz.ntmps159
  go_wp2
  go_region
  go_wp2
  refine wp_letterW (fun w' => Blk w' g 3 (i64V l1) ∧ w.grownBy w' (some g)) ⟨HB1.out, HG1.out.drew⟩ ?_
  clear ca cb fa HB1 HG1 t0 t1 xa xb
  rintro wq ⟨hBq, hGq⟩
  have hl1 := HL1.out
  have hlen := hl1.1
  have ca := hBq.cell (i64V_get l1 a (by omega))
  have cd := hBq.cell (i64V_get l1 d (by omega))
  have fd := hBq.frozen d
  have xa := hl1.at a ha
  have xd := hl1.at d hd
  have hxor : l1.getD d 0 ^^^ l1.getD a 0 < 4294967296 := Nat.xor_lt_two_pow (n := 32) xd xa
  have t2 := i64_xor_nat (l1.getD d 0) (l1.getD a 0) (by omega) (by omega)
  have HT := hide (fun w => chaTurn_any (l1.getD d 0 ^^^ l1.getD a 0) n w hxor hn)
  have hB2 : Blk (wq.setCell ⟨g, d, none⟩ (.int .i64 ((Cha.rotl (l1.getD d 0 ^^^ l1.getD a 0) n : Nat) : Int))) g 3 (i64V (Cha.add2 l1 a d n)) := by
    have h := hBq.setCell_same d (.int .i64 ((Cha.rotl (l1.getD d 0 ^^^ l1.getD a 0) n : Nat) : Int))
    rw [i64V_put] at h
    exact h
  generalize Cha.rotl (l1.getD d 0 ^^^ l1.getD a 0) n = vr at *
  generalize l1.getD d 0 ^^^ l1.getD a 0 = vx at *
  generalize l1.getD d 0 = vd at *
  generalize l1.getD a 0 = va at *
  have HB2 := hide hB2
  have HG2 := hide hGq
  clear hB2 hBq hGq hl1 HL1 hlen
  go_quiet ((go_at_call 187; exact Calls.quiet_of (HT.out _)))
  go_wp2
  go_end0
  rw [HD.out]
  exact ⟨rfl, HB2.out, (HG2.out.drewN _).setCell _ _⟩
end Go.Proofs.YtfidnpchkfpoeaaGreatDoor
namespace Go.Proofs.YtfidnpchkfpoeaaGreatDoor
open Go.RowKit

def z16 : List Nat := List.replicate 16 0
theorem make16 (w : World) : (Instr.makeSlice 24 (.int .i64 16) (.int .i64 16)).run Tryz.prog w = .ok (.slice (some ⟨w.heap.size, 0, none⟩) 16 16) (w.alloc (.cells (i64V z16).toArray 3)) := make_ints 16 (by decide) w
theorem splice16 (l : List Nat) (h : l.length = 16) : splice (i64V z16) 0 (i64V l) = i64V l := by
  unfold splice
  rw [List.take_zero, List.nil_append, List.drop_eq_nil_of_le (by simp [i64V, h, z16]), List.append_nil]

set_option maxRecDepth 100000 in
set_option maxHeartbeats 800000 in
theorem chaQuarter_any (gs cap : Nat) (l : List Nat) (a b c d : Nat) (w : World) (hl : Cha.Ok l) (hsrc : ∀ j v, (i64V l)[j]? = some v → w.cell? ⟨gs, j, none⟩ = some v) (ha : a < 16) (hb : b < 16) (hc : c < 16) (hd : d < 16) :
    Calls Tryz.prog 111 #[.slice (some ⟨gs, 0, none⟩) 16 cap, .int .i64 (a : Nat), .int .i64 (b : Nat), .int .i64 (c : Nat), .int .i64 (d : Nat)] w fun e w' => e = .returned (.slice (some ⟨w.heap.size, 0, none⟩) 16 16) ∧ Blk w' w.heap.size 3 (i64V (Cha.quarter l a b c d)) ∧ Below w.heap.size w w' := by
  have hmk := make16
  have hlen : (i64V l).length = 16 := by simp [i64V, hl.1]
  have hsp := splice16 l hl.1
  have o1 := hl.add a b d 16 ha hd (by decide)
  have o2 := o1.add c d b 12 hc hb (by decide)
  have o3 := o2.add a b d 8 ha hd (by decide)
  have hdef : Cha.quarter l a b c d = Cha.add (Cha.add (Cha.add (Cha.add l a b d 16) c d b 12) a b d 8) c d b 7 := rfl
  have HL := hide hlen
  have HSP := hide hsp
  have HSRC := hide hsrc
  have HD := hide hdef
  have O0 := hide hl
  have O1 := hide o1
  have O2 := hide o2
  have O3 := hide o3
  clear hlen hsp hsrc hdef hl o1 o2 o3
  go_enter Tryz.func111, Tryz.ntmps111
  go_wp2_with (refine wpList_copy_splice rfl (.tmp 13) (.tmp 14) 24 24 rfl 3 Tryz.underlying24 infoInt1 _ _ _ _ _ _ rfl rfl w.heap.size 0 (i64V z16) 3 ?_ (i64V l) ?_ ?_ ?_ (i64V_one _) w.heap.size w ?_ (Nat.le_refl _) ?_; exact Blk.new rfl rfl; (rw [HL.out]; rfl); exact fun _ => ⟨rfl, _, rfl, fun j v hj => by rw [Addr.add_mid, Nat.zero_add]; exact World.cell?_alloc_later _ _ _ (HSRC.out j v hj)⟩; (rw [HL.out]; exact Nat.le_refl 16); exact (Below.refl _ _).alloc (Nat.le_refl _) _; intro w1 HB1 hbe1)
  have hB1 : Blk w1 w.heap.size 3 (i64V l) := by rw [← HSP.out]; exact HB1.out
  have hG1 : Below w.heap.size w w1 := hbe1
  clear HB1 hbe1 hmk HSRC
  have H1 := hide (chaAdd_any w.heap.size l a b d 16 w1 O0.out hB1 ha hb hd (by decide))
  have hl1 := hB1.lt
  have HG1 := hide hG1
  clear hB1 hG1
  go_wp2_with fail
  refine H1.out.mono ?_
  rintro e w2 ⟨rfl, hB2, hg2⟩
  have hG2 : Below w.heap.size w w2 := HG1.out.trans (RowKit.Below.of_grown hg2 (Nat.le_refl _) (Nat.le_of_lt hl1))
  clear hg2 H1 HG1
  have H2 := hide (chaAdd_any w.heap.size (Cha.add l a b d 16) c d b 12 w2 O1.out hB2 hc hd hb (by decide))
  have hl2 := hB2.lt
  have HG2 := hide hG2
  clear hB2 hG2
  go_wp2_with fail
  refine H2.out.mono ?_
  rintro e w3 ⟨rfl, hB3, hg3⟩
  have hG3 : Below w.heap.size w w3 := HG2.out.trans (RowKit.Below.of_grown hg3 (Nat.le_refl _) (Nat.le_of_lt hl2))
  clear hg3 H2 HG2
  have H3 := hide (chaAdd_any w.heap.size (Cha.add (Cha.add l a b d 16) c d b 12) a b d 8 w3 O2.out hB3 ha hb hd (by decide))
  have hl3 := hB3.lt
  have HG3 := hide hG3
  clear hB3 hG3
  go_wp2_with fail
  refine H3.out.mono ?_
  rintro e w4 ⟨rfl, hB4, hg4⟩
  have hG4 : Below w.heap.size w w4 := HG3.out.trans (RowKit.Below.of_grown hg4 (Nat.le_refl _) (Nat.le_of_lt hl3))
  clear hg4 H3 HG3
  have H4 := hide (chaAdd_any w.heap.size (Cha.add (Cha.add (Cha.add l a b d 16) c d b 12) a b d 8) c d b 7 w4 O3.out hB4 hc hd hb (by decide))
  have hl4 := hB4.lt
  have HG4 := hide hG4
  clear hB4 hG4
  go_wp2_with fail
  refine H4.out.mono ?_
  rintro e w5 ⟨rfl, hB5, hg5⟩
  have hG5 : Below w.heap.size w w5 := HG4.out.trans (RowKit.Below.of_grown hg5 (Nat.le_refl _) (Nat.le_of_lt hl4))
  clear hg5 H4 HG4
  have HB := hide hB5
  have HG := hide hG5
  clear hB5 hG5
  go_wp2
  go_ret
  rw [HD.out]
  exact ⟨rfl, HB.out, HG.out⟩

/-- The four bytes of s from i on as a number, the lowest first. -/
def Cha.number (s : List UInt8) (i : Nat) : Nat := (s.getD i 0).toNat + 256 * ((s.getD (i + 1) 0).toNat + 256 * ((s.getD (i + 2) 0).toNat + 256 * (s.getD (i + 3) 0).toNat))
theorem Cha.number_lt (s : List UInt8) (i : Nat) : Cha.number s i < 4294967296 := by
  have h1 := UInt8.toNat_lt (s.getD i 0)
  have h2 := UInt8.toNat_lt (s.getD (i + 1) 0)
  have h3 := UInt8.toNat_lt (s.getD (i + 2) 0)
  have h4 := UInt8.toNat_lt (s.getD (i + 3) 0)
  unfold Cha.number
  omega
theorem byte_at (s : ByteArray) (i : Nat) (h : i < s.size) : s[i] = s.data.toList.getD i 0 := by
  have h2 : i < s.data.toList.length := by rw [Array.length_toList]; exact h
  rw [List.getD_eq_getElem?_getD, List.getElem?_eq_getElem h2, Array.getElem_toList]
  rfl

set_option maxHeartbeats 800000 in
theorem chaNumber_any (s : ByteArray) (i : Nat) (w : World) (h : i + 3 < s.size) (hs : s.size < 1000000) :
    Calls Tryz.prog 158 #[.string s, .int .i64 (i : Nat)] w fun e w' => e = .returned (.int .i64 (Cha.number s.data.toList i : Nat)) ∧ ∃ m, w' = w.drewN m := by
  obtain ⟨ib, hib⟩ : ∃ a : Nat, a = i + 1 := ⟨_, rfl⟩
  obtain ⟨ic, hic⟩ : ∃ a : Nat, a = i + 2 := ⟨_, rfl⟩
  obtain ⟨id, hid⟩ : ∃ a : Nat, a = i + 3 := ⟨_, rfl⟩
  have i1 : i < s.size := by omega
  have i2 : ib < s.size := by omega
  have i3 : ic < s.size := by omega
  have i4 : id < s.size := by omega
  have q1 : IntKind.i64.wrap ((i : Int) + 1) = (ib : Int) := (IntWalk.i64_in _ (by omega)).trans (by omega)
  have q2 : IntKind.i64.wrap ((i : Int) + 2) = (ic : Int) := (IntWalk.i64_in _ (by omega)).trans (by omega)
  have q3 : IntKind.i64.wrap ((i : Int) + 3) = (id : Int) := (IntWalk.i64_in _ (by omega)).trans (by omega)
  have h1 := UInt8.toNat_lt s[i]
  have h2 := UInt8.toNat_lt s[ib]
  have h3 := UInt8.toNat_lt s[ic]
  have h4 := UInt8.toNat_lt s[id]
  have hdef : Cha.number s.data.toList i = s[i].toNat + 256 * (s[ib].toNat + 256 * (s[ic].toNat + 256 * s[id].toNat)) := by
    rw [byte_at s i i1, byte_at s ib i2, byte_at s ic i3, byte_at s id i4, hib, hic, hid]; rfl
  have HD := hide hdef
  clear hdef hib hic hid h
  go_enter Tryz.func158, Tryz.ntmps158
  go_wp2
  go_quiet (fail)
  go_wp2
  go_ret
  refine ⟨ret_int ?_, _, rfl⟩
  rw [HD.out]
  omega
end Go.Proofs.YtfidnpchkfpoeaaGreatDoor
namespace Go.Proofs.YtfidnpchkfpoeaaGreatDoor
open Go.RowKit

namespace Cha
def sigma : List UInt8 := [101, 120, 112, 97, 110, 100, 32, 51, 50, 45, 98, 121, 116, 101, 32, 107]
def nums (s : List UInt8) (k : Nat) : List Nat := (List.range k).map fun i => number s (4 * i)
theorem nums_succ (s : List UInt8) (k : Nat) : nums s (k + 1) = nums s k ++ [number s (4 * k)] := by simp [nums, List.range_succ]
/-- Sixteen words are written down. -/
def state (key nonce : List UInt8) (n : Nat) : List Nat := nums (sigma ++ key) 12 ++ [n] ++ nums nonce 3
theorem state_ok (key nonce : List UInt8) (n : Nat) (hn : n < 4294967296) : Ok (state key nonce n) := by
  refine ⟨by simp [state, nums], fun v hv => ?_⟩
  unfold state nums at hv
  simp only [List.mem_append, List.mem_map, List.mem_singleton] at hv
  rcases hv with (⟨i, _, rfl⟩ | rfl) | ⟨i, _, rfl⟩
  · exact number_lt _ _
  · exact hn
  · exact number_lt _ _
end Cha
theorem i64V_nums (s : List UInt8) (pre : List Nat) (k : Nat) : i64V (pre ++ Cha.nums s k) ++ [.int .i64 ((Cha.number s (4 * k) : Nat) : Int)] = i64V (pre ++ Cha.nums s (k + 1)) := by
  rw [Cha.nums_succ]
  simp [i64V]

set_option maxRecDepth 100000 in
set_option maxHeartbeats 800000 in
theorem chaState_any (key nonce : ByteArray) (n : Nat) (w : World) (hk : key.size = 32) (hn : nonce.size = 12) :
    Calls Tryz.prog 110 #[.string key, .string nonce, .int .i64 (n : Nat)] w fun e w' => ∃ v, e = .returned v ∧ w'.ownsRow w.heap.size 3 1 v 16 (i64V (Cha.state key.data.toList nonce.data.toList n)) ∧ Below w.heap.size w w' := by
  obtain ⟨sg, hsg⟩ : ∃ sg : ByteArray, sg = ⟨#[101, 120, 112, 97, 110, 100, 32, 51, 50, 45, 98, 121, 116, 101, 32, 107]⟩ := ⟨_, rfl⟩
  have hal : (sg ++ key).data.toList = Cha.sigma ++ key.data.toList := by rw [hsg]; simp [ByteArray.data_append, Cha.sigma]
  have haz : (sg ++ key).size = 48 := by
    show (sg ++ key).data.size = 48
    rw [← Array.length_toList, hal, List.length_append, Array.length_toList]
    show 16 + key.size = 48
    omega
  have j0 : ¬ 9223372036854775807 < sg.size + key.size := by rw [hsg, hk]; decide
  have hdef : Cha.state key.data.toList nonce.data.toList n = Cha.nums (Cha.sigma ++ key.data.toList) 12 ++ [n] ++ Cha.nums nonce.data.toList 3 := rfl
  rw [← hal] at hdef
  have N1 := hide (fun i (hi : i + 3 < 48) w => chaNumber_any (sg ++ key) i w (by rw [haz]; exact hi) (by rw [haz]; decide))
  have N2 := hide (fun i (hi : i + 3 < 12) w => chaNumber_any nonce i w (by rw [hn]; exact hi) (by rw [hn]; decide))
  have V1 := hide (i64V_nums (sg ++ key).data.toList)
  have V2 := hide (i64V_nums nonce.data.toList)
  have HD := hide hdef
  have HSG := hide hsg
  clear hdef hal haz hsg
  go_enter Tryz.func110, Tryz.ntmps110
  go_wp2
  rw [← HSG.out]
  clear HSG j0
  generalize (sg ++ key) = all at *
  go_loopw [8, 9] (fun v i wr => ∃ k : Nat, k ≤ 12 ∧ i = .int .i64 k ∧ wr.ownsRow w.heap.size 3 1 v k (i64V ([] ++ Cha.nums all.data.toList k)) ∧ Below w.heap.size w wr) (fun _ i _ => 12 - (intOf i).toNat)
  case atStart => exact ⟨0, by omega, rfl, World.ownsRow_nil _ _ _ _, Below.refl _ _⟩
  case round =>
    obtain ⟨k, hk12, rfl, hown, hbe⟩ := hrel
    have hsz := hbe.size
    by_cases hlt : k < 12
    · obtain ⟨q, hq⟩ : ∃ a : Nat, a = 4 * k := ⟨_, rfl⟩
      have q0 : IntKind.i64.wrap (4 * (k : Int)) = (q : Int) := (IntWalk.i64_in _ (by omega)).trans (by omega)
      have HV := hide (V1.out [] k)
      rw [← hq] at HV
      have NN := hide (N1.out q (by omega))
      have jk : (k : Int) < 12 := by omega
      clear hq
      generalize Cha.number all.data.toList q = vn at *
      go_wp2_with fail
      refine (NN.out _).mono ?_
      rintro e w1 ⟨rfl, m1, rfl⟩
      go_wp2_with (at_builtin; refine wpList_append_int rfl (.tmp 23) (.tmp 25) rfl w.heap.size _ k _ rfl ((own_drewN hown _).alloc _) wr.heap.size _ rfl new_one ?_ (new_size hsz) ?_; omega; intro v1 w2 hown1 hg1)
      go_roundw
      case rel =>
        rw [HV.out] at hown1
        exact ⟨k + 1, by omega, by go_num, hown1, below_append hbe hsz hown hg1⟩
      case measure => simp [intOf]; omega
    · have hk2 : k = 12 := by omega
      subst hk2
      rw [List.nil_append] at hown
      go_wp2_with (at_builtin; refine wpList_append_int rfl (.tmp 27) (.tmp 29) rfl w.heap.size _ 12 _ rfl (hown.alloc _) wr.heap.size _ rfl (World.cell?_alloc_at _ _ _ _ rfl) ?_ ?_ ?_; omega; (simp; omega); intro v1 w2 hown1 hg1)
      have hbe2 : Below w.heap.size w w2 := Below.grown (hbe.alloc hsz _) hg1 (by simp; omega) (fun k hk => (hown.lt k hk).1)
      have hown2 : w2.ownsRow w.heap.size 3 1 v1 13 (i64V (Cha.nums all.data.toList 12 ++ [n] ++ Cha.nums nonce.data.toList 0)) := by
        have e : i64V (Cha.nums all.data.toList 12 ++ [n] ++ Cha.nums nonce.data.toList 0) = i64V (Cha.nums all.data.toList 12) ++ [.int .i64 (n : Int)] := by simp [i64V, Cha.nums]
        rw [e]
        exact hown1
      clear hown1 hg1 hown hbe hsz
      generalize Cha.nums all.data.toList 12 ++ [n] = pre at *
      go_loopw [8, 11] (fun v i wr => ∃ k r : Nat, k ≤ 3 ∧ r = 13 + k ∧ i = .int .i64 k ∧ wr.ownsRow w.heap.size 3 1 v r (i64V (pre ++ Cha.nums nonce.data.toList k)) ∧ Below w.heap.size w wr) (fun _ i _ => 3 - (intOf i).toNat)
      case atStart => exact ⟨0, 13, by omega, rfl, rfl, hown2, hbe2⟩
      case round =>
        obtain ⟨k, r, hk3, hr, rfl, hown, hbe⟩ := hrel
        have hsz := hbe.size
        clear hown2 hbe2
        by_cases hlt : k < 3
        · obtain ⟨q, hq⟩ : ∃ a : Nat, a = 4 * k := ⟨_, rfl⟩
          have q0 : IntKind.i64.wrap (4 * (k : Int)) = (q : Int) := (IntWalk.i64_in _ (by omega)).trans (by omega)
          have HV := hide (V2.out pre k)
          rw [← hq] at HV
          have NN := hide (N2.out q (by omega))
          have jk : (k : Int) < 3 := by omega
          have HR := hide hr
          have hr16 : r ≤ 16 := by omega
          clear hq hr
          generalize Cha.number nonce.data.toList q = vn at *
          go_wp2_with fail
          refine (NN.out _).mono ?_
          rintro e w1 ⟨rfl, m1, rfl⟩
          go_wp2_with (at_builtin; refine wpList_append_int rfl (.tmp 39) (.tmp 41) rfl w.heap.size _ r _ rfl ((own_drewN hown _).alloc _) wr.heap.size _ rfl new_one ?_ (new_size hsz) ?_; omega; intro v1 w2 hown1 hg1)
          go_roundw
          case rel =>
            rw [HV.out] at hown1
            exact ⟨k + 1, r + 1, by omega, by rw [HR.out]; omega, by go_num, hown1, below_append hbe hsz hown hg1⟩
          case measure => simp [intOf]; omega
        · have hk2 : k = 3 := by omega
          subst hk2
          subst hr
          have HO := hide hown
          have HBE := hide hbe
          clear hown hbe
          go_wp2
          go_ret
          rw [HD.out]
          exact ⟨_, rfl, HO.out, HBE.out⟩
end Go.Proofs.YtfidnpchkfpoeaaGreatDoor
namespace Go.Proofs.YtfidnpchkfpoeaaGreatDoor
open Go.RowKit

namespace Cha
def col (x : List Nat) (k : Nat) : List Nat := quarter x k (4 + k) (8 + k) (12 + k)
def diag (x : List Nat) (k : Nat) : List Nat := quarter x k (4 + (k + 1) % 4) (8 + (k + 2) % 4) (12 + (k + 3) % 4)
def cols (x : List Nat) : Nat → List Nat
  | 0 => x
  | k + 1 => col (cols x k) k
def diags (x : List Nat) : Nat → List Nat
  | 0 => x
  | k + 1 => diag (diags x k) k
def rounds (x : List Nat) : Nat → List Nat
  | 0 => x
  | r + 1 => diags (cols (rounds x r) 4) 4
theorem Ok.cols {x : List Nat} (h : Ok x) : ∀ k, k ≤ 4 → Ok (Cha.cols x k)
  | 0, _ => h
  | k + 1, hk => (Ok.cols h k (by omega)).quarter _ _ _ _ (by omega) (by omega) (by omega) (by omega)
theorem Ok.diags {x : List Nat} (h : Ok x) : ∀ k, k ≤ 4 → Ok (Cha.diags x k)
  | 0, _ => h
  | k + 1, hk => (Ok.diags h k (by omega)).quarter _ _ _ _ (by omega) (by omega) (by omega) (by omega)
theorem Ok.rounds {x : List Nat} (h : Ok x) : ∀ r, Ok (Cha.rounds x r)
  | 0 => h
  | r + 1 => ((Ok.rounds h r).cols 4 (by omega)).diags 4 (by omega)
def sumW (x s : List Nat) (i : Nat) : Nat := (x.getD i 0 + s.getD i 0) % 4294967296
def leB (v b : Nat) : List UInt8 := (List.range b).map fun j => UInt8.ofNat (v / 256 ^ j)
theorem leB_succ (v b : Nat) : leB v (b + 1) = leB v b ++ [UInt8.ofNat (v / 256 ^ b)] := by simp [leB, List.range_succ]
def outs (x s : List Nat) (k : Nat) : List UInt8 := (List.range k).flatMap fun i => leB (sumW x s i) 4
theorem outs_succ (x s : List Nat) (k : Nat) : outs x s (k + 1) = outs x s k ++ leB (sumW x s k) 4 := by simp [outs, List.range_succ]
theorem outs_len (x s : List Nat) : ∀ k, (outs x s k).length = 4 * k
  | 0 => rfl
  | k + 1 => by rw [outs_succ, List.length_append, outs_len x s k]; simp [leB]; omega
theorem cols_succ (x : List Nat) (k : Nat) : cols x (k + 1) = quarter (cols x k) k (4 + k) (8 + k) (12 + k) := rfl
theorem diags_succ (x : List Nat) (k : Nat) : diags x (k + 1) = quarter (diags x k) k (4 + (k + 1) % 4) (8 + (k + 2) % 4) (12 + (k + 3) % 4) := rfl
/-- The block. -/
def block (key nonce : List UInt8) (n : Nat) : List UInt8 := outs (rounds (state key nonce n) 10) (state key nonce n) 16
theorem block_len (key nonce : List UInt8) (n : Nat) : (block key nonce n).length = 64 := outs_len _ _ 16
end Cha

theorem diag_nums (j : Nat) (hj : j < 4) : ∃ s1 r1 ib s2 r2 ic s3 r3 id : Nat, IntKind.i64.wrap ((j : Int) + 1) = (s1 : Int) ∧ (s1 : Int).tmod 4 = (r1 : Int) ∧ IntKind.i64.wrap (4 + (r1 : Int)) = (ib : Int) ∧
    IntKind.i64.wrap ((j : Int) + 2) = (s2 : Int) ∧ (s2 : Int).tmod 4 = (r2 : Int) ∧ IntKind.i64.wrap (8 + (r2 : Int)) = (ic : Int) ∧ IntKind.i64.wrap ((j : Int) + 3) = (s3 : Int) ∧ (s3 : Int).tmod 4 = (r3 : Int) ∧ IntKind.i64.wrap (12 + (r3 : Int)) = (id : Int) ∧
    s1 = j + 1 ∧ ib < 16 ∧ ic < 16 ∧ id < 16 ∧ ib = 4 + (j + 1) % 4 ∧ ic = 8 + (j + 2) % 4 ∧ id = 12 + (j + 3) % 4 := by
  refine ⟨j + 1, (j + 1) % 4, 4 + (j + 1) % 4, j + 2, (j + 2) % 4, 8 + (j + 2) % 4, j + 3, (j + 3) % 4, 12 + (j + 3) % 4, ?_, ?_, ?_, ?_, ?_, ?_, ?_, ?_, ?_, rfl, by omega, by omega, by omega, rfl, rfl, rfl⟩
  · exact (IntWalk.i64_in _ (by omega)).trans (by omega)
  · rw [Int.tmod_eq_emod_of_nonneg (by omega)]; omega
  · exact (IntWalk.i64_in _ (by omega)).trans (by omega)
  · exact (IntWalk.i64_in _ (by omega)).trans (by omega)
  · rw [Int.tmod_eq_emod_of_nonneg (by omega)]; omega
  · exact (IntWalk.i64_in _ (by omega)).trans (by omega)
  · exact (IntWalk.i64_in _ (by omega)).trans (by omega)
  · rw [Int.tmod_eq_emod_of_nonneg (by omega)]; omega
  · exact (IntWalk.i64_in _ (by omega)).trans (by omega)
theorem own_cells {w : World} {base : Nat} {v : Value} {n : Nat} {l : List Nat} (h : w.ownsRow base 3 1 v n (i64V l)) (hn : 0 < n) : ∃ g cap, v = .slice (some ⟨g, 0, none⟩) n cap ∧ g < w.heap.size ∧ n ≤ cap ∧ cap ≤ maxLen ∧ ∀ j u, (i64V l)[j]? = some u → w.cell? ⟨g, j, none⟩ = some u := by
  rcases h.2 with ⟨_, h0⟩ | ⟨g, cap, cur, rfl, _, hg, hc, hm, _⟩
  · omega
  · refine ⟨g, cap, rfl, (Array.getElem?_eq_some_iff.1 hg).1, hc, hm, fun j u hu => ?_⟩
    have := h.cells (g := g) rfl j u hu
    rwa [Addr.add_mid, Nat.zero_add] at this

set_option maxHeartbeats 400000 in
theorem chaBlock_len (key nonce : ByteArray) (n : Int) (w : World) (h : key.size ≠ 32 ∨ nonce.size ≠ 12) :
    Calls Tryz.prog 52 #[.string key, .string nonce, .int .i64 n] w fun e w' => e = .returned (.tuple #[.string ⟨#[]⟩, .int .i64 1]) ∧ w' = w := by
  by_cases h1 : key.size = 32
  · have h2 : nonce.size ≠ 12 := by rcases h with h | h; exact absurd h1 h; exact h
    have z1 : ((key.size : Int) != 32) = false := by rw [h1]; rfl
    have z2 : ((nonce.size : Int) != 12) = true := by rw [bne_iff_ne]; omega
    clear h h1 h2
    go_enter Tryz.func52, Tryz.ntmps52
    go_wp2
    refine bodyPost_ret (results_tmp2 rfl _ _ _) rfl ?_
    exact ⟨rfl, rfl⟩
  · have z1 : ((key.size : Int) != 32) = true := by rw [bne_iff_ne]; omega
    clear h h1
    go_enter Tryz.func52, Tryz.ntmps52
    go_wp2
    refine bodyPost_ret (results_tmp2 rfl _ _ _) rfl ?_
    exact ⟨rfl, rfl⟩

set_option maxHeartbeats 400000 in
theorem chaBlock_arg (key nonce : ByteArray) (n : Int) (w : World) (hk : key.size = 32) (hn : nonce.size = 12) (h : n < 0 ∨ 4294967295 < n) :
    Calls Tryz.prog 52 #[.string key, .string nonce, .int .i64 n] w fun e w' => e = .returned (.tuple #[.string ⟨#[]⟩, .int .i64 2]) ∧ w' = w := by
  have z1 : ((key.size : Int) != 32) = false := by rw [hk]; rfl
  have z2 : ((nonce.size : Int) != 12) = false := by rw [hn]; rfl
  clear hk hn
  by_cases h0 : n < 0
  · go_enter Tryz.func52, Tryz.ntmps52
    go_wp2
    refine bodyPost_ret (results_tmp2 rfl _ _ _) rfl ?_
    exact ⟨rfl, rfl⟩
  · have h1 : 4294967295 < n := by omega
    clear h
    go_enter Tryz.func52, Tryz.ntmps52
    go_wp2
    refine bodyPost_ret (results_tmp2 rfl _ _ _) rfl ?_
    exact ⟨rfl, rfl⟩

set_option maxRecDepth 100000 in
set_option maxHeartbeats 3000000 in
theorem chaBlock_any (key nonce : ByteArray) (n : Nat) (w : World) (hk : key.size = 32) (hn : nonce.size = 12) (hn2 : n ≤ 4294967295) :
    Calls Tryz.prog 52 #[.string key, .string nonce, .int .i64 (n : Nat)] w fun e w' => e = .returned (.tuple #[.string ⟨(Cha.block key.data.toList nonce.data.toList n).toArray⟩, .int .i64 0]) ∧ Below w.heap.size w w' := by
  have z1 : ((key.size : Int) != 32) = false := by rw [hk]; rfl
  have z2 : ((nonce.size : Int) != 12) = false := by rw [hn]; rfl
  have z3 : ¬ (n : Int) < 0 := by omega
  have z4 : ¬ (4294967295 : Int) < (n : Int) := by omega
  have HST := hide (chaState_any key nonce n w hk hn)
  have hok := Cha.state_ok key.data.toList nonce.data.toList n (by omega)
  have hdef : Cha.block key.data.toList nonce.data.toList n = Cha.outs (Cha.rounds (Cha.state key.data.toList nonce.data.toList n) 10) (Cha.state key.data.toList nonce.data.toList n) 16 := rfl
  generalize Cha.state key.data.toList nonce.data.toList n = S at *
  have HD := hide hdef
  have HOK := hide hok
  clear hdef hok hk hn hn2
  go_enter Tryz.func52, Tryz.ntmps52
  go_wp2_with fail
  refine HST.out.mono ?_
  rintro e w1 ⟨v, rfl, hown, hb1⟩
  obtain ⟨gs, caps, rfl, hgs, hc1, hc2, hsc⟩ := own_cells hown (by decide)
  have HSC := hide hsc
  have HB1 := hide hb1
  unfold maxLen at hc2
  clear hown hsc hb1 HST
  go_wp2
  go_loopw [9, 10] (fun vx i wr => ∃ k gx cx : Nat, k ≤ 10 ∧ i = .int .i64 k ∧ vx = .slice (some ⟨gx, 0, none⟩) 16 cx ∧ 16 ≤ cx ∧ cx ≤ 9223372036854775807 ∧ gx < wr.heap.size ∧ (∀ j u, (i64V (Cha.rounds S k))[j]? = some u → wr.cell? ⟨gx, j, none⟩ = some u) ∧ Below w1.heap.size w1 wr) (fun _ i _ => 10 - (intOf i).toNat)
  case atStart => exact ⟨0, gs, caps, by omega, rfl, rfl, hc1, by simpa using hc2, hgs, HSC.out, Below.refl _ _⟩
  case round =>
    obtain ⟨k, gx, cx, hk10, rfl, rfl, hcx1, hcx2, hgx, hX, hbe⟩ := hrel
    have ok1 := HOK.out.rounds k
    by_cases hlt : k < 10
    · have hnext : Cha.rounds S (k + 1) = Cha.diags (Cha.cols (Cha.rounds S k) 4) 4 := rfl
      have HN := hide hnext
      have jk : (k : Int) < 10 := by omega
      clear hnext
      generalize Cha.rounds S k = X at *
      have HX := hide hX
      have HBE := hide hbe
      have OK1 := hide ok1
      clear hX hbe ok1
      go_wp2
      go_loopw [9, 11] (fun vx i wr2 => ∃ j gx cx : Nat, j ≤ 4 ∧ i = .int .i64 j ∧ vx = .slice (some ⟨gx, 0, none⟩) 16 cx ∧ 16 ≤ cx ∧ cx ≤ 9223372036854775807 ∧ gx < wr2.heap.size ∧ (∀ q u, (i64V (Cha.cols X j))[q]? = some u → wr2.cell? ⟨gx, q, none⟩ = some u) ∧ Below w1.heap.size w1 wr2) (fun _ i _ => 4 - (intOf i).toNat)
      case atStart => exact ⟨0, gx, cx, by omega, rfl, rfl, hcx1, hcx2, hgx, HX.out, HBE.out⟩
      case round =>
        clear HX HBE hgx hcx1 hcx2
        obtain ⟨j, gx, cx, hj4, rfl, rfl, hcx1, hcx2, hgx, hX, hbe⟩ := hrel
        have ok2 := OK1.out.cols j hj4
        by_cases hlj : j < 4
        · obtain ⟨ib, hib⟩ : ∃ a : Nat, a = 4 + j := ⟨_, rfl⟩
          obtain ⟨ic, hic⟩ : ∃ a : Nat, a = 8 + j := ⟨_, rfl⟩
          obtain ⟨id, hid⟩ : ∃ a : Nat, a = 12 + j := ⟨_, rfl⟩
          have q1 : IntKind.i64.wrap (4 + (j : Int)) = (ib : Int) := (IntWalk.i64_in _ (by omega)).trans (by omega)
          have q2 : IntKind.i64.wrap (8 + (j : Int)) = (ic : Int) := (IntWalk.i64_in _ (by omega)).trans (by omega)
          have q3 : IntKind.i64.wrap (12 + (j : Int)) = (id : Int) := (IntWalk.i64_in _ (by omega)).trans (by omega)
          have HQ := hide (chaQuarter_any gx cx (Cha.cols X j) j ib ic id wr ok2 hX (by omega) (by omega) (by omega) (by omega))
          have HC := hide (show Cha.quarter (Cha.cols X j) j ib ic id = Cha.cols X (j + 1) by rw [hib, hic, hid, Cha.cols_succ])
          have HBE := hide hbe
          have jj : (j : Int) < 4 := by omega
          clear hX hbe ok2 hib hic hid
          go_wp2_with fail
          refine HQ.out.mono ?_
          rintro e w3 ⟨rfl, hB3, hb3⟩
          rw [HC.out] at hB3
          have hl3 := hB3.lt
          have HB3 := hide hB3
          have HBE3 := hide (HBE.out.trans (hb3.mono HBE.out.size))
          clear hB3 hb3 HQ HBE
          go_wp2
          go_roundw
          case rel => exact ⟨j + 1, wr.heap.size, 16, by omega, by go_num, rfl, by omega, by omega, hl3, fun q u hu => HB3.out.cell hu, HBE3.out⟩
          case measure => simp [intOf]; omega
        · have hj : j = 4 := by omega
          subst hj
          have HX2 := hide hX
          have HBE := hide hbe
          have OK2 := hide ok2
          clear hX hbe ok2
          generalize Cha.cols X 4 = Y at *
          go_wp2
          go_loopw [9, 12] (fun vx i wr2 => ∃ j gx cx : Nat, j ≤ 4 ∧ i = .int .i64 j ∧ vx = .slice (some ⟨gx, 0, none⟩) 16 cx ∧ 16 ≤ cx ∧ cx ≤ 9223372036854775807 ∧ gx < wr2.heap.size ∧ (∀ q u, (i64V (Cha.diags Y j))[q]? = some u → wr2.cell? ⟨gx, q, none⟩ = some u) ∧ Below w1.heap.size w1 wr2) (fun _ i _ => 4 - (intOf i).toNat)
          case atStart => exact ⟨0, gx, cx, by omega, rfl, rfl, hcx1, hcx2, hgx, HX2.out, HBE.out⟩
          case round =>
            clear HX2 HBE hgx hcx1 hcx2
            obtain ⟨j, gx, cx, hj4, rfl, rfl, hcx1, hcx2, hgx, hX, hbe⟩ := hrel
            have ok3 := OK2.out.diags j hj4
            by_cases hlj : j < 4
            · obtain ⟨s1, r1, ib, s2, r2, ic, s3, r3, id, p1, m1, q1, p2, m2, q2, p3, m3, q3, hs1, b1, b2, b3, hib, hic, hid⟩ := diag_nums j hlj
              have HS1 := hide hs1
              clear hs1
              have HQ := hide (chaQuarter_any gx cx (Cha.diags Y j) j ib ic id wr ok3 hX (Nat.lt_trans hlj (by decide)) b1 b2 b3)
              have HC := hide (show Cha.quarter (Cha.diags Y j) j ib ic id = Cha.diags Y (j + 1) by rw [hib, hic, hid, Cha.diags_succ])
              have HBE := hide hbe
              have jj : (j : Int) < 4 := by omega
              clear hX hbe ok3 hib hic hid
              go_wp2_with fail
              refine HQ.out.mono ?_
              rintro e w3 ⟨rfl, hB3, hb3⟩
              rw [HC.out] at hB3
              have hl3 := hB3.lt
              have HB3 := hide hB3
              have HBE3 := hide (HBE.out.trans (hb3.mono HBE.out.size))
              clear hB3 hb3 HQ HBE
              go_wp2
              go_roundw
              case rel =>
                (repeat apply Exists.intro)
                refine ⟨⟨j + 1, wr.heap.size, 16, by omega, ?_, ?_, by omega, by omega, hl3, fun q u hu => HB3.out.cell hu, HBE3.out⟩, rfl⟩
                · rw [HS1.out]
                · rfl
              case measure => have := HS1.out; simp [intOf]; omega
            · have hj : j = 4 := by omega
              subst hj
              rw [← HN.out] at hX
              have HX3 := hide hX
              have HBE := hide hbe
              clear hX hbe ok3
              go_wp2
              go_roundw
              case rel => exact ⟨k + 1, gx, cx, by omega, by go_num, rfl, hcx1, hcx2, hgx, HX3.out, HBE.out⟩
              case measure => simp [intOf]; omega
    · have hk2 : k = 10 := by omega
      subst hk2
      have hS : ∀ j u, (i64V S)[j]? = some u → wr.cell? ⟨gs, j, none⟩ = some u := fun j u hu => by rw [← HSC.out j u hu]; exact hbe.cell hgs
      have hgs2 : gs < wr.heap.size := Nat.lt_of_lt_of_le hgs hbe.size
      have HBW := hide (HB1.out.trans (hbe.mono HB1.out.size))
      generalize Cha.rounds S 10 = X at *
      have HX := hide hX
      have HS := hide hS
      have OKX := hide ok1
      have OU := hide (Cha.outs_succ X S)
      clear hX hS ok1 hbe HSC HB1
      have hS16 := HOK.out
      have OKS := hide hS16
      clear hS16
      go_wp2
      refine wp_letterW (fun w' => (∀ j u, (i64V X)[j]? = some u → w'.cell? ⟨gx, j, none⟩ = some u) ∧ (∀ j u, (i64V S)[j]? = some u → w'.cell? ⟨gs, j, none⟩ = some u) ∧ gx < w'.heap.size ∧ gs < w'.heap.size ∧ Below w.heap.size w w') ⟨HX.out, HS.out, hgx, hgs2, HBW.out⟩ ?_
      clear HX HS hgx hgs2 HBW hgs
      rintro wb ⟨hX, hS, hgx, hgs, hbw⟩
      have HX := hide hX
      have HS := hide hS
      have HBW := hide hbw
      clear hX hS hbw
      go_loopw [13, 14] (fun vo i w3 => ∃ k r : Nat, k ≤ 16 ∧ r = 4 * k ∧ i = .int .i64 k ∧ Row w3 wb.heap.size 5 1 vo r (u8L (Cha.outs X S k)) ∧ Below wb.heap.size wb w3) (fun _ i _ => 16 - (intOf i).toNat)
      case atStart => exact ⟨0, 0, by omega, rfl, rfl, Row.nil _ _ _ _, Below.refl _ _⟩
      case round =>
        obtain ⟨k, r, hk16, hr, rfl, hrow, hbe⟩ := hrel
        by_cases hlk : k < 16
        · have xk := OKX.out.at k hlk
          have sk := OKS.out.at k hlk
          have cx0 : wr.cell? ⟨gx, k, none⟩ = some (.int .i64 ((X.getD k 0 : Nat) : Int)) := by rw [hbe.cell hgx]; exact HX.out k _ (i64V_get X k (by rw [OKX.out.1]; exact hlk))
          have cs0 : wr.cell? ⟨gs, k, none⟩ = some (.int .i64 ((S.getD k 0 : Nat) : Int)) := by rw [hbe.cell hgs]; exact HS.out k _ (i64V_get S k (by rw [OKS.out.1]; exact hlk))
          have hV : Cha.sumW X S k = (X.getD k 0 + S.getD k 0) % 4294967296 := rfl
          have HOU := hide (OU.out k)
          generalize X.getD k 0 = vx at *
          generalize S.getD k 0 = vs at *
          have t0 : IntKind.i64.wrap ((vx : Int) + (vs : Int)) = (vx : Int) + (vs : Int) := IntWalk.i64_in _ (by omega)
          have t1 : ((vx : Int) + (vs : Int)).tmod 4294967296 = (((vx + vs) % 4294967296 : Nat) : Int) := by rw [Int.tmod_eq_emod_of_nonneg (by omega)]; omega
          have hVl : (vx + vs) % 4294967296 < 4294967296 := Nat.mod_lt _ (by decide)
          rw [← hV] at t1 hVl
          generalize Cha.sumW X S k = V at *
          generalize Cha.outs X S k = os at *
          have jk : (k : Int) < 16 := by omega
          have jx : (16 : Nat) ≤ cx := hcx1
          have HROW := hide hrow
          have HBE := hide hbe
          have HR := hide hr
          clear hV hrow hbe hr
          go_wp2
          go_quiet (fail)
          clear t0 t1 cx0 cs0 xk sk
          go_wp2
          go_loopw [13, 15, 16] (fun vo vv b w4 => ∃ j q r2 : Nat, j ≤ 4 ∧ b = .int .i64 j ∧ q = V / 256 ^ j ∧ vv = .int .i64 (q : Nat) ∧ r2 = r + j ∧ Row w4 wb.heap.size 5 1 vo r2 (u8L (os ++ Cha.leB V j)) ∧ Below wb.heap.size wb w4) (fun _ _ b _ => 4 - (intOf b).toNat)
          case atStart => exact ⟨0, V, r, by omega, rfl, by simp, rfl, rfl, by simpa [Cha.leB] using HROW.out.drewN _, below_drewN HBE.out _⟩
          case round =>
            clear HROW HBE
            obtain ⟨j, q, r2, hj4, rfl, hq, rfl, hr2, hrow, hbe⟩ := hrel
            have hsz := hbe.size
            by_cases hlj : j < 4
            · have hqV : q ≤ V := by rw [hq]; exact Nat.div_le_self _ _
              have hq2 : q / 256 = V / 256 ^ (j + 1) := by rw [hq, Nat.div_div_eq_div_mul, Nat.pow_succ]
              have HLE := hide (Cha.leB_succ V j)
              rw [← hq] at HLE
              have t3 : (q : Int).tmod 256 = ((q % 256 : Nat) : Int) := by rw [Int.tmod_eq_emod_of_nonneg (by omega)]; omega
              have t4 : (q : Int).tdiv 256 = ((q / 256 : Nat) : Int) := by rw [Int.tdiv_eq_ediv_of_nonneg (by omega)]; omega
              have t5 : ((q % 256 : Nat) : Int) % 256 = ((q % 256 : Nat) : Int) := by omega
              have hq2b : q / 256 ≤ q := Nat.div_le_self _ _
              have e8 : ((q % 256 : Nat) : Int) = (((UInt8.ofNat q).toNat : Nat) : Int) := by rw [ofNat_mod]
              have hqm : q % 256 < 256 := Nat.mod_lt _ (by decide)
              have HQ2 := hide hq2
              have HR2 := hide hr2
              have hrs : r2 ≤ 100 := by have := HR.out; omega
              have jj : (j : Int) < 4 := by omega
              clear hq hq2 hr2
              generalize q % 256 = q8 at *
              generalize q / 256 = qn at *
              have E8 := hide e8
              clear e8
              go_wp2_with (at_builtin; refine wpList_append_u8 rfl (.tmp 90) (.tmp 94) rfl wb.heap.size _ r2 _ rfl (hrow.alloc _) _ 1 1 [UInt8.ofNat q] rfl rfl (one_news E8.out (World.cell?_alloc_at _ _ _ _ rfl)) ?_ ?_ ?_; omega; (simp; omega); intro v1 w5 hr1 hg1 hat1)
              go_roundw
              case rel =>
                (repeat apply Exists.intro)
                refine ⟨⟨j + 1, qn, r2 + 1, by omega, ?_, HQ2.out, ?_, by rw [HR2.out]; omega, ?_, ?_⟩, rfl⟩
                · first | rfl | go_num
                · first | rfl | go_num
                · rw [HLE.out, ← List.append_assoc]
                  exact hr1
                · exact Below.grown (hbe.alloc hsz _) hg1 (by simp; omega) (fun k hk => (hrow.lt k hk).1)
              case measure => simp [intOf]; omega
            · have hj : j = 4 := by omega
              subst hj
              rw [← HOU.out] at hrow
              have HROW := hide hrow
              have HBE := hide hbe
              have HR2 := hide hr2
              clear hrow hbe hr2 hq
              go_wp2
              go_roundw
              case rel => exact ⟨k + 1, r2, by omega, by rw [HR2.out, HR.out]; omega, by go_num, HROW.out, HBE.out⟩
              case measure => simp [intOf]; omega
        · have hk2 : k = 16 := by omega
          subst hk2
          subst hr
          obtain ⟨g4, cap4, rfl, hcv⟩ := Row.str hrow (by omega)
          have HBE := hide (HBW.out.trans (hbe.mono HBW.out.size))
          clear hbe hrow
          go_wp2
          refine bodyPost_ret (results_tmp2 rfl _ _ _) rfl ?_
          rw [HD.out]
          exact ⟨rfl, HBE.out⟩
end Go.Proofs.YtfidnpchkfpoeaaGreatDoor
namespace Go.Proofs.YtfidnpchkfpoeaaGreatDoor
open Go.RowKit

theorem u8x (x c : UInt8) : bits .xor .u8 ((x.toNat : Nat) : Int) ((c.toNat : Nat) : Int) = (((x ^^^ c).toNat : Nat) : Int) := by
  rw [u8_xor_nat _ _ (UInt8.toNat_lt x) (UInt8.toNat_lt c), UInt8.toNat_xor]
theorem step_append_u8 {ops : Array Oper} {o : Oper} {a : Act} {w : World} {K : Act → World → Prop} {Q : Exit → Act → World → Prop} {E : Prop} (hgd : o.guard = none) (s x : Operand)
    (ho : o.op = .call { callee := .builtin .append, args := #[s, x], argTypes := #[62, 62] })
    (base : Nat) (v : Value) (n : Nat) (xs : List UInt8) (hs : a.eval s = v) (hown : Row w base 5 1 v n (u8L xs))
    (ad : Addr) (m c : Nat) (news : List UInt8) (hx : a.eval x = .slice (some ad) m c) (hl : news.length = m) (hnew : ∀ j u, (u8L news)[j]? = some u → w.cell? (ad.add j) = some u) (hn : n + m ≤ 1099511627776) (hbase : base ≤ w.heap.size)
    (h : ∀ v' w', Row w' base 5 1 v' (n + m) (u8L (xs ++ news)) → w.grownBy w' v.ownBlock → (v'.ownBlock = v.ownBlock ∨ ∃ g, v'.ownBlock = some g ∧ w.heap.size ≤ g) → K (a.put o.dst v') w') :
    if Region.wanted o (yielded ops a.tmps) = true then Oper.wp Tryz.prog o a w K Q else E := by
  rw [if_pos (by simp [Region.wanted, hgd])]
  obtain ⟨i0, hi, hz0, hz1, hz2⟩ := info_parts infoU8
  refine wp_append_row s x 62 ho i0 (.int .u8 0) 1 Tryz.underlying62 hi hz0 hz1 hz2 rfl (by decide) v n (u8L xs) hs hown ad m c (u8L news) hx (by simp [u8L, hl]) hnew (u8L_one _) ?_ ?_ hbase ?_
  · unfold maxLen; omega
  · omega
  · intro v' w' h1 h2 h3
    exact h v' w' (by rw [u8L_append]; exact h1) h2 h3

namespace Cha
def ks (key nonce : List UInt8) (n p : Nat) : UInt8 := (block key nonce (n + p / 64)).getD (p % 64) 0
def xorL (key nonce : List UInt8) (n from_ : Nat) (text : List UInt8) (k : Nat) : List UInt8 := (List.range k).map fun i => text.getD i 0 ^^^ ks key nonce n (from_ + i)
theorem xorL_succ (key nonce : List UInt8) (n from_ : Nat) (text : List UInt8) (k : Nat) : xorL key nonce n from_ text (k + 1) = xorL key nonce n from_ text k ++ [text.getD k 0 ^^^ ks key nonce n (from_ + k)] := by simp [xorL, List.range_succ]
end Cha

set_option maxHeartbeats 400000 in
theorem chaXor_spent (key nonce : ByteArray) (n from_ : Nat) (text : ByteArray) (w : World) (hn : n ≤ 4294967295) (hf : from_ ≤ 1099511627776) (ht : text.size ≤ 1099511627776) (h : (4294967296 - n) * 64 < from_ + text.size) :
    Calls Tryz.prog 64 #[.string key, .string nonce, .int .i64 (n : Nat), .int .i64 (from_ : Nat), .string text] w fun e w' => e = .returned (.tuple #[.string ⟨#[]⟩, .int .i64 3]) ∧ w' = w := by
  obtain ⟨L, hL⟩ : ∃ L : Nat, L = (4294967296 - n) * 64 := ⟨_, rfl⟩
  obtain ⟨d, hd⟩ : ∃ d : Nat, d = 4294967296 - n := ⟨_, rfl⟩
  have t1 : IntKind.i64.wrap ((from_ : Int) + (text.size : Int)) = (from_ : Int) + (text.size : Int) := IntWalk.i64_in _ (by omega)
  have t2 : IntKind.i64.wrap (4294967296 - (n : Int)) = (d : Int) := (IntWalk.i64_in _ (by omega)).trans (by omega)
  have t3 : IntKind.i64.wrap ((d : Int) * 64) = (L : Int) := (IntWalk.i64_in _ (by omega)).trans (by omega)
  have j : (L : Int) < (from_ : Int) + (text.size : Int) := by omega
  clear hL hd h
  go_enter Tryz.func64, Tryz.ntmps64
  go_wp2
  refine bodyPost_ret (results_tmp2 rfl _ _ _) rfl ?_
  exact ⟨rfl, rfl⟩

theorem xor_nums (n from_ i : Nat) (hf : from_ ≤ 274877906944) (h : n + (from_ + i) / 64 ≤ 4294967295) : ∃ p ix pq nb : Nat, p = from_ + i ∧ ix = p % 64 ∧ nb = n + p / 64 ∧
    IntKind.i64.wrap ((from_ : Int) + (i : Int)) = (p : Int) ∧ (p : Int).tmod 64 = (ix : Int) ∧ (p : Int).tdiv 64 = (pq : Int) ∧ IntKind.i64.wrap ((n : Int) + (pq : Int)) = (nb : Int) ∧ wrap64 (pq : Int) = (pq : Int) ∧ wrap64 ((n : Int) + (pq : Int)) = (nb : Int) ∧ ix < 64 ∧ nb ≤ 4294967295 := by
  refine ⟨from_ + i, (from_ + i) % 64, (from_ + i) / 64, n + (from_ + i) / 64, rfl, rfl, rfl, ?_, ?_, ?_, ?_, ?_, ?_, Nat.mod_lt _ (by decide), h⟩
  · exact (IntWalk.i64_in _ (by omega)).trans (by omega)
  · rw [Int.tmod_eq_emod_of_nonneg (by omega)]; omega
  · rw [Int.tdiv_eq_ediv_of_nonneg (by omega)]; omega
  · exact (IntWalk.i64_in _ (by omega)).trans (by omega)
  · exact IntWalk.wrap64_in _ (by omega)
  · exact (IntWalk.wrap64_in _ (by omega)).trans (by omega)
theorem same_block (n from_ i nb p : Nat) (hp : p = from_ + i) (hnb : nb = n + p / 64) (hix : p % 64 ≠ 0) : n + (from_ + i - 1) / 64 = nb := by omega

set_option maxRecDepth 100000 in
set_option maxHeartbeats 1000000 in
theorem chaXor_any (key nonce : ByteArray) (n from_ : Nat) (text : ByteArray) (w : World) (hk : key.size = 32) (hno : nonce.size = 12) (hn : n ≤ 4294967295) (ht : text.size ≤ 1099511627) (h : from_ + text.size ≤ (4294967296 - n) * 64) :
    Calls Tryz.prog 64 #[.string key, .string nonce, .int .i64 (n : Nat), .int .i64 (from_ : Nat), .string text] w fun e w' => e = .returned (.tuple #[.string ⟨(Cha.xorL key.data.toList nonce.data.toList n from_ text.data.toList text.size).toArray⟩, .int .i64 0]) ∧ Below w.heap.size w w' := by
  obtain ⟨L, hL⟩ : ∃ L : Nat, L = (4294967296 - n) * 64 := ⟨_, rfl⟩
  obtain ⟨d, hd⟩ : ∃ d : Nat, d = 4294967296 - n := ⟨_, rfl⟩
  have t1 : IntKind.i64.wrap ((from_ : Int) + (text.size : Int)) = (from_ : Int) + (text.size : Int) := IntWalk.i64_in _ (by omega)
  have t2 : IntKind.i64.wrap (4294967296 - (n : Int)) = (d : Int) := (IntWalk.i64_in _ (by omega)).trans (by omega)
  have t3 : IntKind.i64.wrap ((d : Int) * 64) = (L : Int) := (IntWalk.i64_in _ (by omega)).trans (by omega)
  have j : ¬ (L : Int) < (from_ : Int) + (text.size : Int) := by omega
  have HBK := hide (fun p (hp : n + p / 64 ≤ 4294967295) w => chaBlock_any key nonce (n + p / 64) w hk hno hp)
  have HKL := hide (fun p => Cha.block_len key.data.toList nonce.data.toList (n + p / 64))
  have HKS := hide (show ∀ p, Cha.ks key.data.toList nonce.data.toList n p = (Cha.block key.data.toList nonce.data.toList (n + p / 64)).getD (p % 64) 0 from fun _ => rfl)
  have HXS := hide (Cha.xorL_succ key.data.toList nonce.data.toList n from_ text.data.toList)
  have HX0 := hide (show Cha.xorL key.data.toList nonce.data.toList n from_ text.data.toList 0 = [] from rfl)
  have hbound : ∀ i, i < text.size → n + (from_ + i) / 64 ≤ 4294967295 := fun i hi => by omega
  have hfrom : from_ ≤ 274877906944 := by omega
  have HBD := hide hbound
  have HH := hide h
  generalize Cha.xorL key.data.toList nonce.data.toList n from_ text.data.toList = xl at *
  generalize Cha.ks key.data.toList nonce.data.toList n = kst at *
  generalize Cha.block key.data.toList nonce.data.toList = blk at *
  clear hk hno hbound hL hd h
  go_enter Tryz.func64, Tryz.ntmps64
  go_wp2
  clear t1 t2 t3 j
  go_loopw [12, 13, 14] (fun vo vk vi wr => ∃ (i : Nat) (kb : ByteArray), i ≤ text.size ∧ vi = .int .i64 (i : Nat) ∧ vk = .string kb ∧ (i = 0 ∨ kb.data.toList = blk (n + (from_ + i - 1) / 64)) ∧ Row wr w.heap.size 5 1 vo i (u8L (xl i)) ∧ Below w.heap.size w wr) (fun _ _ i _ => text.size - (intOf i).toNat)
  case atStart => exact ⟨0, ⟨#[]⟩, by omega, rfl, rfl, .inl rfl, by rw [HX0.out]; exact Row.nil _ _ _ _, Below.refl _ _⟩
  case round =>
    obtain ⟨i, kb, hi, rfl, rfl, hkb, hrow, hbe⟩ := hrel
    by_cases hlt : i < text.size
    · have hpb0 := HBD.out i hlt
      obtain ⟨p, ix, pq, nb, hp, hix, hnb, q0, q1, q2, q3, q4, q5, hix64, hpb⟩ := xor_nums n from_ i hfrom hpb0
      clear hpb0
      have jt : (i : Int) < (text.size : Int) := by omega
      have hblen := HKL.out p
      rw [← hnb] at hblen
      have HKS2 := hide (HKS.out p)
      rw [← hnb, ← hix] at HKS2
      have HX := hide (HXS.out i)
      rw [← hp] at HX
      have HP := hide hp
      have HNB := hide hnb
      have HIX := hide hix
      have hit : i < text.data.toList.length := by rw [Array.length_toList]; exact hlt
      by_cases hc : i = 0 ∨ ix = 0
      · by_cases h0 : i = 0
        · have z1 : ((i : Int) == 0) = true := by rw [h0]; rfl
          clear h0
          have HBK2 := hide (HBK.out p (by rw [← hnb]; exact hpb))
          rw [← hnb] at HBK2
          have HROW0 := hide hrow
          have HBE0 := hide hbe
          clear hrow hbe hkb hp hix hnb hc
          go_wp2_with fail
          refine (HBK2.out _).mono ?_
          rintro e w2 ⟨rfl, hb2⟩
          obtain ⟨kb2, hkb2⟩ : ∃ kb2 : ByteArray, kb2 = ⟨(blk nb).toArray⟩ := ⟨_, rfl⟩
          rw [← hkb2]
          have HKB0 := hide (show kb2.data.toList = blk nb by rw [hkb2])
          have HROW := hide (HROW0.out.kept (hb2.grownBy none) (by cases hv : Value.ownBlock _ <;> simp))
          have HBE := hide (HBE0.out.trans (hb2.mono HBE0.out.size))
          clear hkb2 hb2 HROW0 HBE0 HBK2
          have hkz : kb2.size = 64 := by
            show kb2.data.size = 64
            rw [← Array.length_toList, HKB0.out]
            exact hblen
          have hixk : ix < kb2.size := by rw [hkz]; exact hix64
          have e1 := byte_at text i hlt
          have e2 := byte_at kb2 ix hixk
          have hx2 : xl (i + 1) = xl i ++ [text[i] ^^^ kb2[ix]] := by rw [HX.out, HKS2.out, e1, e2, HKB0.out]
          have HX2 := hide hx2
          have tt := u8x text[i] kb2[ix]
          have HKB := hide (show kb2.data.toList = blk (n + (from_ + (i + 1) - 1) / 64) by rw [HKB0.out, HNB.out, HP.out]; rfl)
          clear hx2 e1 e2 hblen HX HKS2 HKB0
          generalize text[i] ^^^ kb2[ix] = y at *
          have jx : (ix : Int) < (kb2.size : Int) := by omega
          clear hkz
          go_wp2
          go_region_law (refine step_append_u8 rfl (.tmp 50) (.tmp 59) rfl w.heap.size _ i _ rfl (HROW.out.drew.alloc _) ⟨w2.heap.size, 0, none⟩ 1 1 [y] rfl rfl (one_news rfl (World.cell?_alloc_at _ _ _ _ rfl)) ?_ ?_ ?_; omega; (have := HBE.out.size; simp; omega); intro v1 w5 hr1 hg1 hat1)
          all_goals
            go_wp2
            go_roundw
            case rel =>
              refine ⟨i + 1, kb2, by omega, by first | rfl | go_num, rfl, .inr HKB.out, ?_, ?_⟩
              · rw [HX2.out]
                exact hr1
              · have hz := HBE.out.size
                exact Below.grown (HBE.out.drew.alloc (by simpa using hz) _) hg1 (by simp; omega) (fun k hk => (HROW.out.lt k hk).1)
            case measure => simp [intOf]; omega
        · have z1 : ((i : Int) == 0) = false := beq_eq_false_iff_ne.2 (by omega)
          have z2 : ((ix : Int) == 0) = true := beq_iff_eq.2 (by omega)
          clear h0
          have HBK2 := hide (HBK.out p (by rw [← hnb]; exact hpb))
          rw [← hnb] at HBK2
          have HROW0 := hide hrow
          have HBE0 := hide hbe
          clear hrow hbe hkb hp hix hnb hc
          go_wp2_with fail
          refine (HBK2.out _).mono ?_
          rintro e w2 ⟨rfl, hb2⟩
          obtain ⟨kb2, hkb2⟩ : ∃ kb2 : ByteArray, kb2 = ⟨(blk nb).toArray⟩ := ⟨_, rfl⟩
          rw [← hkb2]
          have HKB0 := hide (show kb2.data.toList = blk nb by rw [hkb2])
          have HROW := hide (HROW0.out.kept (hb2.grownBy none) (by cases hv : Value.ownBlock _ <;> simp))
          have HBE := hide (HBE0.out.trans (hb2.mono HBE0.out.size))
          clear hkb2 hb2 HROW0 HBE0 HBK2
          have hkz : kb2.size = 64 := by
            show kb2.data.size = 64
            rw [← Array.length_toList, HKB0.out]
            exact hblen
          have hixk : ix < kb2.size := by rw [hkz]; exact hix64
          have e1 := byte_at text i hlt
          have e2 := byte_at kb2 ix hixk
          have hx2 : xl (i + 1) = xl i ++ [text[i] ^^^ kb2[ix]] := by rw [HX.out, HKS2.out, e1, e2, HKB0.out]
          have HX2 := hide hx2
          have tt := u8x text[i] kb2[ix]
          have HKB := hide (show kb2.data.toList = blk (n + (from_ + (i + 1) - 1) / 64) by rw [HKB0.out, HNB.out, HP.out]; rfl)
          clear hx2 e1 e2 hblen HX HKS2 HKB0
          generalize text[i] ^^^ kb2[ix] = y at *
          have jx : (ix : Int) < (kb2.size : Int) := by omega
          clear hkz
          go_wp2
          go_region_law (refine step_append_u8 rfl (.tmp 50) (.tmp 59) rfl w.heap.size _ i _ rfl (HROW.out.drew.alloc _) ⟨w2.heap.size, 0, none⟩ 1 1 [y] rfl rfl (one_news rfl (World.cell?_alloc_at _ _ _ _ rfl)) ?_ ?_ ?_; omega; (have := HBE.out.size; simp; omega); intro v1 w5 hr1 hg1 hat1)
          all_goals
            go_wp2
            go_roundw
            case rel =>
              refine ⟨i + 1, kb2, by omega, by first | rfl | go_num, rfl, .inr HKB.out, ?_, ?_⟩
              · rw [HX2.out]
                exact hr1
              · have hz := HBE.out.size
                exact Below.grown (HBE.out.drew.alloc (by simpa using hz) _) hg1 (by simp; omega) (fun k hk => (HROW.out.lt k hk).1)
            case measure => simp [intOf]; omega
      · have z1 : ((i : Int) == 0) = false := beq_eq_false_iff_ne.2 (by omega)
        have z2 : ((ix : Int) == 0) = false := beq_eq_false_iff_ne.2 (by omega)
        have HKB0 := hide (show kb.data.toList = blk nb by
          rcases hkb with h0 | h0
          · exact absurd h0 (fun e => hc (.inl e))
          · rw [h0, same_block n from_ i nb p hp hnb (fun e => hc (.inr (hix.trans e)))])
        have HROW := hide hrow
        have HBE := hide hbe
        clear hrow hbe hkb hp hix hnb hc
        have hkz : kb.size = 64 := by
          show kb.data.size = 64
          rw [← Array.length_toList, HKB0.out]
          exact hblen
        have hixk : ix < kb.size := by rw [hkz]; exact hix64
        have e1 := byte_at text i hlt
        have e2 := byte_at kb ix hixk
        have hx2 : xl (i + 1) = xl i ++ [text[i] ^^^ kb[ix]] := by rw [HX.out, HKS2.out, e1, e2, HKB0.out]
        have HX2 := hide hx2
        have tt := u8x text[i] kb[ix]
        have HKB := hide (show kb.data.toList = blk (n + (from_ + (i + 1) - 1) / 64) by rw [HKB0.out, HNB.out, HP.out]; rfl)
        clear hx2 e1 e2 hblen HX HKS2 HKB0
        generalize text[i] ^^^ kb[ix] = y at *
        have jx : (ix : Int) < (kb.size : Int) := by omega
        clear hkz
        go_wp2
        go_region_law (refine step_append_u8 rfl (.tmp 50) (.tmp 59) rfl w.heap.size _ i _ rfl (HROW.out.drew.alloc _) ⟨wr.heap.size, 0, none⟩ 1 1 [y] rfl rfl (one_news rfl (World.cell?_alloc_at _ _ _ _ rfl)) ?_ ?_ ?_; omega; (have := HBE.out.size; simp; omega); intro v1 w5 hr1 hg1 hat1)
        all_goals
          go_wp2
          go_roundw
          case rel =>
            refine ⟨i + 1, kb, by omega, by first | rfl | go_num, rfl, .inr HKB.out, ?_, ?_⟩
            · rw [HX2.out]
              exact hr1
            · have hz := HBE.out.size
              exact Below.grown (HBE.out.drew.alloc (by simpa using hz) _) hg1 (by simp; omega) (fun k hk => (HROW.out.lt k hk).1)
          case measure => simp [intOf]; omega
    · have hil : i = text.size := by omega
      have HBE := hide hbe
      rcases Nat.eq_zero_or_pos i with h0 | h0
      · subst h0
        have HF := hide (show (⟨(xl text.size).toArray⟩ : ByteArray) = ⟨#[]⟩ by rw [← hil, HX0.out])
        have jt : ¬ (0 : Int) < (text.size : Int) := by omega
        rcases hrow.2 with ⟨hnil, _⟩ | ⟨g, cap, cur, hv, hg1, hB, hc1, hc2, hc3, hc4⟩
        · subst hnil
          have hcv2 : (convert 62 9 (.slice none 0 0)).run Tryz.prog wr = .ok (.string ⟨#[]⟩) wr := by
            rw [run_convert_bytes_string wr 62 9 5 none 0 0 Tryz.underlying62 Tryz.underlying5 Tryz.underlying9]
            rfl
          clear hrow hbe hkb hil hlt
          go_wp2
          refine bodyPost_ret (results_tmp2 rfl _ _ _) rfl ?_
          rw [HF.out]
          exact ⟨rfl, HBE.out⟩
        · subst hv
          have hcv := run_convert_bytes_back (P := Tryz.prog) wr 62 9 5 ⟨g, 0, none⟩ cap [] Tryz.underlying62 Tryz.underlying5 Tryz.underlying9 (fun j hj => absurd hj (Nat.not_lt_zero _))
          have hcv2 : (convert 62 9 (.slice (some ⟨g, 0, none⟩) 0 cap)).run Tryz.prog wr = .ok (.string ⟨#[]⟩) wr := hcv
          clear hrow hbe hkb hB hcv hil hlt
          go_wp2
          refine bodyPost_ret (results_tmp2 rfl _ _ _) rfl ?_
          rw [HF.out]
          exact ⟨rfl, HBE.out⟩
      · obtain ⟨g4, cap4, rfl, hcv⟩ := Row.str hrow h0
        have jt : ¬ (i : Int) < (text.size : Int) := by omega
        have HF := hide (show xl text.size = xl i by rw [hil])
        clear hrow hbe hkb hil
        go_wp2
        refine bodyPost_ret (results_tmp2 rfl _ _ _) rfl ?_
        rw [HF.out]
        exact ⟨rfl, HBE.out⟩
end Go.Proofs.YtfidnpchkfpoeaaGreatDoor
