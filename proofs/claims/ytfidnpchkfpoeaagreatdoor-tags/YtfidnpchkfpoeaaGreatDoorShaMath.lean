
namespace Sha

def rotr (v n : Nat) : Nat := v / 2 ^ n + v % 2 ^ n * 2 ^ (32 - n)
def s0 (v : Nat) : Nat := rotr v 7 ^^^ rotr v 18 ^^^ v / 2 ^ 3
def s1 (v : Nat) : Nat := rotr v 17 ^^^ rotr v 19 ^^^ v / 2 ^ 10
def b1 (e : Nat) : Nat := rotr e 6 ^^^ rotr e 11 ^^^ rotr e 25
def b0 (a : Nat) : Nat := rotr a 2 ^^^ rotr a 13 ^^^ rotr a 22
def ch (x y z : Nat) : Nat := (x &&& y) ^^^ ((4294967295 - x) &&& z)
def maj (x y z : Nat) : Nat := (x &&& y) ^^^ (x &&& z) ^^^ (y &&& z)

theorem rotr_lt (v n : Nat) (hn : n ≤ 32) (hv : v < 4294967296) : rotr v n < 4294967296 := by
  unfold rotr
  have hp : 2 ^ n * 2 ^ (32 - n) = 4294967296 := by rw [← Nat.pow_add, show n + (32 - n) = 32 by omega]
  have h1 : v / 2 ^ n < 2 ^ (32 - n) := by
    apply Nat.div_lt_of_lt_mul; omega
  have h2 : v % 2 ^ n < 2 ^ n := Nat.mod_lt _ (Nat.two_pow_pos n)
  have h3 : (v % 2 ^ n + 1) * 2 ^ (32 - n) ≤ 2 ^ n * 2 ^ (32 - n) := Nat.mul_le_mul_right _ h2
  rw [Nat.add_mul, Nat.one_mul] at h3
  omega

theorem or_rot (v n : Nat) (hn : n ≤ 32) (hv : v < 4294967296) : v / 2 ^ n ||| v * 2 ^ (32 - n) % 4294967296 = rotr v n := by
  unfold rotr
  have hp : 2 ^ n * 2 ^ (32 - n) = 4294967296 := by rw [← Nat.pow_add, show n + (32 - n) = 32 by omega]
  have h1 : v / 2 ^ n < 2 ^ (32 - n) := by
    apply Nat.div_lt_of_lt_mul; omega
  have h4 : v * 2 ^ (32 - n) % 4294967296 = v % 2 ^ n * 2 ^ (32 - n) := by
    rw [← hp, Nat.mul_mod_mul_right]
  rw [h4, ← Nat.shiftLeft_eq, Nat.or_comm, ← Nat.shiftLeft_add_eq_or_of_lt h1, Nat.add_comm]

theorem xor_lt {a b : Nat} (ha : a < 4294967296) (hb : b < 4294967296) : a ^^^ b < 4294967296 := Nat.xor_lt_two_pow (n := 32) ha hb
theorem and_lt {a b : Nat} (ha : a < 4294967296) : a &&& b < 4294967296 := Nat.lt_of_le_of_lt Nat.and_le_left ha
theorem div_lt {a : Nat} (n : Nat) (ha : a < 4294967296) : a / 2 ^ n < 4294967296 := Nat.lt_of_le_of_lt (Nat.div_le_self _ _) ha

theorem s0_lt (v : Nat) (hv : v < 4294967296) : s0 v < 4294967296 := xor_lt (xor_lt (rotr_lt _ _ (by omega) hv) (rotr_lt _ _ (by omega) hv)) (div_lt _ hv)
theorem s1_lt (v : Nat) (hv : v < 4294967296) : s1 v < 4294967296 := xor_lt (xor_lt (rotr_lt _ _ (by omega) hv) (rotr_lt _ _ (by omega) hv)) (div_lt _ hv)
theorem b0_lt (v : Nat) (hv : v < 4294967296) : b0 v < 4294967296 := xor_lt (xor_lt (rotr_lt _ _ (by omega) hv) (rotr_lt _ _ (by omega) hv)) (rotr_lt _ _ (by omega) hv)
theorem b1_lt (v : Nat) (hv : v < 4294967296) : b1 v < 4294967296 := xor_lt (xor_lt (rotr_lt _ _ (by omega) hv) (rotr_lt _ _ (by omega) hv)) (rotr_lt _ _ (by omega) hv)
theorem ch_lt (x y z : Nat) (hx : x < 4294967296) : ch x y z < 4294967296 := xor_lt (and_lt hx) (and_lt (by omega))
theorem maj_lt (x y z : Nat) (hx : x < 4294967296) (hy : y < 4294967296) : maj x y z < 4294967296 := xor_lt (xor_lt (and_lt hx) (and_lt hx)) (and_lt hy)

theorem tb_not (x i : Nat) (hx : x < 4294967296) : (4294967295 - x).testBit i = (decide (i < 32) && !x.testBit i) := by
  have h := Nat.testBit_two_pow_sub_succ (n := 32) (x := x) (by simpa using hx) i
  rw [← h]; congr 1; omega

theorem ch_or (x y z : Nat) (hx : x < 4294967296) : (x &&& y) ||| ((4294967295 - x) &&& z) = ch x y z := by
  unfold ch
  apply Nat.eq_of_testBit_eq
  intro i
  simp only [Nat.testBit_or, Nat.testBit_and, Nat.testBit_xor, tb_not x i hx]
  cases x.testBit i <;> cases y.testBit i <;> cases z.testBit i <;> simp

theorem maj_or (x y z : Nat) : ((x &&& y) ||| (x &&& z)) ||| (y &&& z) = maj x y z := by
  unfold maj
  apply Nat.eq_of_testBit_eq
  intro i
  simp only [Nat.testBit_or, Nat.testBit_and, Nat.testBit_xor]
  cases x.testBit i <;> cases y.testBit i <;> cases z.testBit i <;> rfl

def Kt : List Nat := [1116352408, 1899447441, 3049323471, 3921009573, 961987163, 1508970993, 2453635748, 2870763221, 3624381080, 310598401, 607225278, 1426881987, 1925078388, 2162078206, 2614888103, 3248222580, 3835390401, 4022224774, 264347078, 604807628, 770255983, 1249150122, 1555081692, 1996064986, 2554220882, 2821834349, 2952996808, 3210313671, 3336571891, 3584528711, 113926993, 338241895, 666307205, 773529912, 1294757372, 1396182291, 1695183700, 1986661051, 2177026350, 2456956037, 2730485921, 2820302411, 3259730800, 3345764771, 3516065817, 3600352804, 4094571909, 275423344, 430227734, 506948616, 659060556, 883997877, 958139571, 1322822218, 1537002063, 1747873779, 1955562222, 2024104815, 2227730452, 2361852424, 2428436474, 2756734187, 3204031479, 3329325298]

/-- The eight words. -/
structure St where
  a : Nat
  b : Nat
  c : Nat
  d : Nat
  e : Nat
  f : Nat
  g : Nat
  h : Nat

def H0 : St := ⟨1779033703, 3144134277, 1013904242, 2773480762, 1359893119, 2600822924, 528734635, 1541459225⟩

def St.list (s : St) : List Nat := [s.a, s.b, s.c, s.d, s.e, s.f, s.g, s.h]

structure St.ok (s : St) : Prop where
  a : s.a < 4294967296
  b : s.b < 4294967296
  c : s.c < 4294967296
  d : s.d < 4294967296
  e : s.e < 4294967296
  f : s.f < 4294967296
  g : s.g < 4294967296
  h : s.h < 4294967296

def by8 (b : List UInt8) (i : Nat) : Nat := (b.getD i 0).toNat
theorem by8_lt (b : List UInt8) (i : Nat) : by8 b i < 256 := UInt8.toNat_lt _
def be (b : List UInt8) (t : Nat) : Nat := ((by8 b (4 * t) * 256 + by8 b (4 * t + 1)) * 256 + by8 b (4 * t + 2)) * 256 + by8 b (4 * t + 3)
theorem be_lt (b : List UInt8) (t : Nat) : be b t < 4294967296 := by
  unfold be
  have h1 := by8_lt b (4 * t)
  have h2 := by8_lt b (4 * t + 1)
  have h3 := by8_lt b (4 * t + 2)
  have h4 := by8_lt b (4 * t + 3)
  omega

def wAt (l : List Nat) (i : Nat) : Nat := l.getD i 0
def schedStep (b : List UInt8) (l : List Nat) (t : Nat) : Nat :=
  if t < 16 then be b t else (s1 (wAt l (t - 2)) + wAt l (t - 7) + s0 (wAt l (t - 15)) + wAt l (t - 16)) % 4294967296
def sched (b : List UInt8) : Nat → List Nat
  | 0 => []
  | t + 1 => sched b t ++ [schedStep b (sched b t) t]
theorem sched_len (b : List UInt8) (t : Nat) : (sched b t).length = t := by
  induction t with
  | zero => rfl
  | succ t ih => simp [sched, ih]
theorem schedStep_lt (b : List UInt8) (l : List Nat) (t : Nat) : schedStep b l t < 4294967296 := by
  unfold schedStep
  split
  · exact be_lt b t
  · exact Nat.mod_lt _ (by omega)
theorem sched_lt (b : List UInt8) (t : Nat) : ∀ x ∈ sched b t, x < 4294967296 := by
  induction t with
  | zero => intro x hx; cases hx
  | succ t ih =>
    intro x hx
    rcases List.mem_append.1 hx with h | h
    · exact ih x h
    · rw [List.mem_singleton.1 h]; exact schedStep_lt _ _ _
theorem wAt_sched_lt (b : List UInt8) (t i : Nat) : wAt (sched b t) i < 4294967296 := by
  unfold wAt
  rw [List.getD_eq_getElem?_getD]
  cases h : (sched b t)[i]? with
  | none => simp
  | some x => simpa using sched_lt b t x (List.mem_of_getElem? h)
theorem wAt_sched_succ (b : List UInt8) (t i : Nat) (hi : i < t) : wAt (sched b (t + 1)) i = wAt (sched b t) i := by
  show (sched b t ++ [schedStep b (sched b t) t]).getD i 0 = (sched b t).getD i 0
  rw [List.getD_eq_getElem?_getD, List.getD_eq_getElem?_getD, List.getElem?_append_left (by rw [sched_len]; exact hi)]
theorem wAt_sched_mono (b : List UInt8) (t n i : Nat) (hi : i < t) : wAt (sched b (t + n)) i = wAt (sched b t) i := by
  induction n with
  | zero => rfl
  | succ n ih => rw [← Nat.add_assoc, wAt_sched_succ b (t + n) i (by omega), ih]
theorem wAt_sched_at (b : List UInt8) (t : Nat) : wAt (sched b (t + 1)) t = schedStep b (sched b t) t := by
  show (sched b t ++ [schedStep b (sched b t) t]).getD t 0 = _
  rw [List.getD_eq_getElem?_getD, List.getElem?_append_right (by rw [sched_len]; exact Nat.le_refl _), sched_len]
  simp

def rnd (k w : Nat) (s : St) : St :=
  ⟨((s.h + b1 s.e + ch s.e s.f s.g + k + w) % 4294967296 + b0 s.a + maj s.a s.b s.c) % 4294967296, s.a, s.b, s.c,
   (s.d + (s.h + b1 s.e + ch s.e s.f s.g + k + w) % 4294967296) % 4294967296, s.e, s.f, s.g⟩
theorem rnd_ok (k w : Nat) (s : St) (h : s.ok) : (rnd k w s).ok :=
  ⟨Nat.mod_lt _ (by omega), h.a, h.b, h.c, Nat.mod_lt _ (by omega), h.e, h.f, h.g⟩
def rnds (ws : List Nat) (s : St) : Nat → St
  | 0 => s
  | t + 1 => rnd (wAt Kt t) (wAt ws t) (rnds ws s t)
theorem rnds_ok (ws : List Nat) (s : St) (t : Nat) (h : s.ok) : (rnds ws s t).ok := by
  induction t with
  | zero => exact h
  | succ t ih => exact rnd_ok _ _ _ ih
def addSt (h r : St) : St :=
  ⟨(h.a + r.a) % 4294967296, (h.b + r.b) % 4294967296, (h.c + r.c) % 4294967296, (h.d + r.d) % 4294967296,
   (h.e + r.e) % 4294967296, (h.f + r.f) % 4294967296, (h.g + r.g) % 4294967296, (h.h + r.h) % 4294967296⟩
theorem addSt_ok (h r : St) : (addSt h r).ok :=
  ⟨Nat.mod_lt _ (by omega), Nat.mod_lt _ (by omega), Nat.mod_lt _ (by omega), Nat.mod_lt _ (by omega),
   Nat.mod_lt _ (by omega), Nat.mod_lt _ (by omega), Nat.mod_lt _ (by omega), Nat.mod_lt _ (by omega)⟩
def comp (h : St) (b : List UInt8) : St := addSt h (rnds (sched b 64) h 64)
theorem H0_ok : H0.ok := ⟨by decide, by decide, by decide, by decide, by decide, by decide, by decide, by decide⟩
def comps (l : List UInt8) : Nat → St
  | 0 => H0
  | n + 1 => comp (comps l n) ((l.drop (64 * n)).take 64)
theorem comps_ok (l : List UInt8) (n : Nat) : (comps l n).ok := by
  cases n with
  | zero => exact H0_ok
  | succ n => exact addSt_ok _ _
theorem comps_append (l m : List UInt8) (n : Nat) (h : 64 * n ≤ l.length) : comps (l ++ m) n = comps l n := by
  induction n with
  | zero => rfl
  | succ n ih =>
    have e : ((l ++ m).drop (64 * n)).take 64 = (l.drop (64 * n)).take 64 := by
      rw [List.drop_append_of_le_length (by omega), List.take_append_of_le_length (by simp; omega)]
    show comp (comps (l ++ m) n) (((l ++ m).drop (64 * n)).take 64) = comp (comps l n) ((l.drop (64 * n)).take 64)
    rw [ih (by omega), e]

/-- The eight bytes of a number of 64 bits, the greatest first. -/
def be64 (n : Nat) : List UInt8 :=
  [UInt8.ofNat (n / 2 ^ 56), UInt8.ofNat (n / 2 ^ 48), UInt8.ofNat (n / 2 ^ 40), UInt8.ofNat (n / 2 ^ 32),
   UInt8.ofNat (n / 2 ^ 24), UInt8.ofNat (n / 2 ^ 16), UInt8.ofNat (n / 2 ^ 8), UInt8.ofNat n]
def zeros (n : Nat) : List UInt8 := List.replicate n 0
def gap (n : Nat) : Nat := (119 - n % 64) % 64
def padded (m : List UInt8) : List UInt8 := m ++ [128] ++ zeros (gap m.length) ++ be64 (8 * m.length)
theorem padded_len (m : List UInt8) : (padded m).length = m.length + 9 + gap m.length := by
  simp [padded, zeros, be64]; omega
theorem padded_mod (m : List UInt8) : (padded m).length % 64 = 0 := by
  rw [padded_len]; unfold gap; omega
def be4 (n : Nat) : List UInt8 := [UInt8.ofNat (n / 2 ^ 24), UInt8.ofNat (n / 2 ^ 16), UInt8.ofNat (n / 2 ^ 8), UInt8.ofNat n]
def out (s : St) : List UInt8 := be4 s.a ++ be4 s.b ++ be4 s.c ++ be4 s.d ++ be4 s.e ++ be4 s.f ++ be4 s.g ++ be4 s.h
def sum (m : List UInt8) : List UInt8 := out (comps (padded m) ((padded m).length / 64))
theorem sum_len (m : List UInt8) : (sum m).length = 32 := rfl

end Sha
