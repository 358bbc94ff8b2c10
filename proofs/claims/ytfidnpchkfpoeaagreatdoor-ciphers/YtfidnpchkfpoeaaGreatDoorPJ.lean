import Derived.Test.YtfidnpchkfpoeaaGreatDoorP1
import Derived.Test.YtfidnpchkfpoeaaGreatDoorRow
namespace Go.Proofs.YtfidnpchkfpoeaaGreatDoor
open Go.RowKit

theorem u32V_len (l : List Nat) : (u32V l).length = l.length := by simp [u32V]
theorem u32V_get (l : List Nat) (i : Nat) (h : i < l.length) : (u32V l)[i]? = some (.int .u32 ((l.getD i 0 : Nat) : Int)) := by
  simp [u32V, List.getD, h]
theorem u32V_put (l : List Nat) (i x : Nat) : (u32V l).set i (.int .u32 ((x : Nat) : Int)) = u32V (l.set i x) := by
  unfold u32V
  rw [List.map_set]
theorem u8V_len (l : List UInt8) : (u8V l).length = l.length := by simp [u8V]
theorem u8V_one (l : List UInt8) : ∀ v ∈ u8V l, v.oneCell' = true := by
  intro v hv
  obtain ⟨x, _, rfl⟩ := List.mem_map.1 hv
  rfl
/-- A whole row is loaded out of its block. -/
theorem wpList_load_row {P : Program} {ops : Array Oper} {rest : List Oper} {op : Oper} {a : Act} {w : World} {Q : Exit → Act → World → Prop} (hgd : op.guard = none) (ty : TypeId) (x : Operand) (ho : op.op = .load ty x)
    (b : Nat) (hx : a.eval x = .pointer (some ⟨b, 0, none⟩)) (n : Nat) (e : TypeId) (hu : P.underlying ty = some (.array n e)) (hi : (P.info? ty).map (·.size) = some n) (cs : List Value) (t : TypeId) (hb : Blk w b t cs) (hl : cs.length = n)
    (h : wpList P ops Q rest (a.put op.dst (.agg cs.toArray)) w) : wpList P ops Q (op :: rest) a w :=
  wpList_load_mid hgd ty x ho b 0 hx cs (.array n e) hb.rangeAll hu rfl (by rw [hl]; exact hi) h
/-- A whole row is stored over its block. -/
theorem wpList_store_row {P : Program} {ops : Array Oper} {rest : List Oper} {op : Oper} {a : Act} {w : World} {Q : Exit → Act → World → Prop} (hgd : op.guard = none) (ty : TypeId) (x y : Operand) (ho : op.op = .store ty x y)
    (b : Nat) (hx : a.eval x = .pointer (some ⟨b, 0, none⟩)) (n : Nat) (hi : (P.info? ty).map (·.size) = some n) (cs : List Value) (hy : a.eval y = .agg cs.toArray) (hl : cs.length = n) (h1 : ∀ v ∈ cs, v.oneCell' = true) (old : List Value) (t : TypeId) (hb : Blk w b t old) (hol : old.length = n)
    (h : ∀ w', Blk w' b t cs → w.grownBy w' (some b) → wpList P ops Q rest (a.put op.dst undef) w') : wpList P ops Q (op :: rest) a w :=
  wpList_store_blk hgd ty x y ho b 0 cs.toArray hx hy (by rw [hi]; simp [hl]) (all_oneCell_toArray h1) t old hb (by simp [hl, hol])
    fun w' h1 h2 => h w' (by rw [laidOver_all _ _ (by simp [hl, hol])] at h1; exact h1) h2
/-- A row is handed back out of the result's block. -/
theorem ret_rowB {P : Program} {fn : Func} {R : Ending → World → Prop} {a : Act} {w : World} {p : Tmp} {ty : TypeId} (h : fn.results = #[.cell p ty]) (b : Nat) (hp : a.tmps.getD p undef = .pointer (some ⟨b, 0, none⟩))
    (n : Nat) (e : TypeId) (hu : P.underlying ty = some (.array n e)) (hi : (P.info? ty).map (·.size) = some n) (cs : List Value) (t : TypeId) (hb : Blk w b t cs) (hl : cs.length = n) (hdf : a.defers = [])
    (hR : R (.returned (.agg cs.toArray)) w) : bodyPost P fn R .ret a w :=
  ret_row h b 0 hp cs (.array n e) hb.rangeAll hu rfl (by rw [hl]; exact hi) hdf hR
/-- An empty list that is not nil. -/
theorem Row.zero {w : World} {base g : Nat} {e : TypeId} (hb : base ≤ g) (h : Blk w g e []) : Row w base e 1 (.slice (some ⟨g, 0, none⟩) 0 0) 0 [] :=
  ⟨rfl, .inr ⟨g, 0, [], rfl, hb, h.marked, Nat.le_refl _, by decide, rfl, rfl⟩⟩
/-- The walk stops at this operation. -/
theorem wpList_stop {P : Program} {ops : Array Oper} {rest : List Oper} {op : Oper} {a : Act} {w : World} {Q : Exit → Act → World → Prop} (x : Op) (_ : op.op = x) (h : Hid (wpList P ops Q (op :: rest) a w)) : wpList P ops Q (op :: rest) a w := h
/-- The walk stands at this operation. -/
theorem wpList_at {P : Program} {ops : Array Oper} {rest : List Oper} {op : Oper} {a : Act} {w : World} {Q : Exit → Act → World → Prop} (x : Op) (_ : op.op = x) (h : wpList P ops Q (op :: rest) a w) : wpList P ops Q (op :: rest) a w := h
theorem wpList_letterW {P : Program} {ops : Array Oper} {l : List Oper} {a : Act} {w : World} {Q : Exit → Act → World → Prop} (F : World → Prop) (hF : F w) (h : ∀ w', F w' → wpList P ops Q l a w') : Hid (wpList P ops Q l a w) := h w hF
/-- v turned to the left by n, as the program does it. -/
theorem or_rotl_int (v n : Nat) (hv : v < 4294967296) (hn : n ≤ 32) :
    bits .or .u32 ((v : Int) * 2 ^ n % 4294967296) ((v : Int) / 2 ^ (32 - n)) = (Cha.rotl v n : Nat) := by
  have e1 : ((v : Int) / 2 ^ (32 - n)) = ((v / 2 ^ (32 - n) : Nat) : Int) := by rw [Int.natCast_ediv, Int.natCast_pow]; rfl
  have e2 : ((v : Int) * 2 ^ n % 4294967296) = ((v * 2 ^ n % 4294967296 : Nat) : Int) := by
    rw [← cast_mulmod, Int.natCast_pow]; rfl
  have hp : 2 ^ (32 - n) * 2 ^ n = 4294967296 := by rw [← Nat.pow_add, show 32 - n + n = 32 by omega]
  have hq : 0 < 2 ^ (32 - n) := Nat.two_pow_pos _
  have h1 : v / 2 ^ (32 - n) < 2 ^ n := (Nat.div_lt_iff_lt_mul hq).2 (by rw [Nat.mul_comm, hp]; exact hv)
  have h3 : v * 2 ^ n % 4294967296 = v % 2 ^ (32 - n) * 2 ^ n := by rw [← hp, Nat.mul_mod_mul_right]
  have h4 : v / 2 ^ (32 - n) < 4294967296 := Nat.lt_of_le_of_lt (Nat.div_le_self _ _) hv
  rw [e1, e2, u32_or_nat _ _ (Nat.mod_lt _ (by omega)) h4, h3, or_shift _ _ _ h1]
  rfl
end Go.Proofs.YtfidnpchkfpoeaaGreatDoor
namespace Go.Proofs.YtfidnpchkfpoeaaGreatDoor
open Go.RowKit

set_option maxHeartbeats 400000 in
theorem turnLeft_any (v n : Nat) (w : World) (hv : v < 4294967296) (hn : n ≤ 32) :
    Calls Tryz.prog 190 #[.int .u32 v, .int .u32 n] w fun e w' => e = .returned (.int .u32 (Cha.rotl v n : Nat)) ∧ w' = w := by
  go_enter Tryz.func190, Tryz.ntmps190
  go_wp2
  go_ret
  exact ⟨ret_int (or_rotl_int v n hv hn), rfl⟩
theorem sumc (a b : Nat) : ((a : Int) + (b : Int)) % 4294967296 = (((a + b) % 4294967296 : Nat) : Int) := by omega
theorem info16 : (Tryz.prog.info? 145).map (·.size) = some 16 := by kernel_rfl
theorem zeros32_len (n : Nat) : (zeros32 n).length = n := by simp [zeros32]

/-- One half of a quarter round: the numbers that the walk meets. -/
theorem half_nums (a b c d m n : Nat) (hm : m ≤ 32) (hn : n ≤ 32) (_ : a < 4294967296) (hb : b < 4294967296) (_ : c < 4294967296) (hd : d < 4294967296) :
    ∃ a1 x1 d1 c1 x2 b1 : Nat, (⟨a1, b1, c1, d1⟩ : Cha.Q4) = Cha.Q4.half ⟨a, b, c, d⟩ m n ∧ ((a : Int) + (b : Int)) % 4294967296 = (a1 : Int) ∧ bits .xor .u32 (d : Int) (a1 : Int) = (x1 : Int) ∧ d1 = Cha.rotl x1 m ∧ ((c : Int) + (d1 : Int)) % 4294967296 = (c1 : Int) ∧ bits .xor .u32 (b : Int) (c1 : Int) = (x2 : Int) ∧ b1 = Cha.rotl x2 n ∧
      x1 < 4294967296 ∧ x2 < 4294967296 ∧ a1 < 4294967296 ∧ b1 < 4294967296 ∧ c1 < 4294967296 ∧ d1 < 4294967296 := by
  have q (x : Nat) : x % 4294967296 < 4294967296 := Nat.mod_lt _ (by decide)
  have x1 := Nat.xor_lt_two_pow (n := 32) hd (q (a + b))
  have x2 := Nat.xor_lt_two_pow (n := 32) hb (q (c + Cha.rotl (d ^^^ (a + b) % 4294967296) m))
  exact ⟨_, _, _, _, _, _, rfl, sumc a b, u32_xor_nat _ _ hd (q _), rfl, sumc _ _, u32_xor_nat _ _ hb (q _), rfl, x1, x2, q _, Cha.rotl_lt _ _ hn x2, q _, Cha.rotl_lt _ _ hm x1⟩

set_option maxRecDepth 100000 in
set_option maxHeartbeats 1600000 in
theorem quarter_any (l : List Nat) (i j k m : Nat) (w : World) (hl : Cha.Ok l) (hi : i < 16) (hj : j < 16) (hk : k < 16) (hm : m < 16)
    (h1 : i ≠ j) (h2 : i ≠ k) (h3 : i ≠ m) (h4 : j ≠ k) (h5 : j ≠ m) (h6 : k ≠ m) :
    Calls Tryz.prog 186 #[.agg (u32V l).toArray, .int .i64 (i : Nat), .int .i64 (j : Nat), .int .i64 (k : Nat), .int .i64 (m : Nat)] w fun e w' => e = .returned (.agg (u32V (Cha.quarter l i j k m)).toArray) ∧ Below w.heap.size w w' := by
  have hq := Cha.quarter_eq l i j k m hl.1 hi hj hk hm h1 h2 h3 h4 h5 h6
  obtain ⟨a1, x1, d1, c1, x2, b1, e1, s1, t1, r1, s2, t2, r2, y1, y2, ba, bb, bc, bd⟩ := half_nums (l.getD i 0) (l.getD j 0) (l.getD k 0) (l.getD m 0) 16 12 (by decide) (by decide) (hl.at i hi) (hl.at j hj) (hl.at k hk) (hl.at m hm)
  obtain ⟨a2, x3, d2, c2, x4, b2, e2, s3, t3, r3, s4, t4, r4, y3, y4, _, _, _, _⟩ := half_nums a1 b1 c1 d1 8 7 (by decide) (by decide) ba bb bc bd
  unfold Cha.q4 at hq
  rw [← e1, ← e2] at hq
  have hlen := hl.1
  have HQ := hide hq
  have HL := hide hlen
  have T1 := hide (fun w => turnLeft_any x1 16 w y1 (by decide))
  have T2 := hide (fun w => turnLeft_any x2 12 w y2 (by decide))
  have T3 := hide (fun w => turnLeft_any x3 8 w y3 (by decide))
  have T4 := hide (fun w => turnLeft_any x4 7 w y4 (by decide))
  rw [← r1] at T1
  rw [← r2] at T2
  rw [← r3] at T3
  rw [← r4] at T4
  have G1 := u32V_get l i (by omega)
  have G2 := u32V_get l j (by omega)
  have G3 := u32V_get l k (by omega)
  have G4 := u32V_get l m (by omega)
  generalize l.getD i 0 = va at *
  generalize l.getD j 0 = vb at *
  generalize l.getD k 0 = vc at *
  generalize l.getD m 0 = vd at *
  clear hq e1 e2 r1 r2 r3 r4 y1 y2 y3 y4 ba bb bc bd hl hlen h1 h2 h3 h4 h5 h6
  have ji : (i : Int) < 16 := by omega
  have jj : (j : Int) < 16 := by omega
  have jk : (k : Int) < 16 := by omega
  have jm : (m : Int) < 16 := by omega
  go_enter Tryz.func186, Tryz.ntmps186
  go_wp2_with (with_reducible refine wpList_stop (.indexAddr 145 (.tmp 5) (.tmp 15)) rfl ?_)
  refine wpList_letterW (fun w' => Blk w' w.heap.size 145 (u32V l) ∧ Blk w' (w.heap.size + 1) 145 (u32V (zeros32 16)) ∧ Below w.heap.size w w') ⟨(Blk.new rfl rfl).alloc _, Blk.new (by simp) rfl, ((Below.refl _ _).alloc (Nat.le_refl _) _).alloc (by simp) _⟩ ?_
  rintro w1 ⟨hB0, hB1, hbe⟩
  have g1 := hB0.cell G1
  have g2 := hB0.cell G2
  have g3 := hB0.cell G3
  have g4 := hB0.cell G4
  have f := hB0.frozen
  go_wp2_with fail
  refine (T1.out _).mono ?_
  rintro e w' ⟨rfl, rfl⟩
  go_wp2_with fail
  refine (T2.out _).mono ?_
  rintro e w' ⟨rfl, rfl⟩
  go_wp2_with fail
  refine (T3.out _).mono ?_
  rintro e w' ⟨rfl, rfl⟩
  go_wp2_with fail
  refine (T4.out _).mono ?_
  rintro e w' ⟨rfl, rfl⟩
  clear T1 T2 T3 T4
  go_wp2_with (with_reducible refine wpList_stop (.indexAddr 145 (.tmp 5) (.tmp 58)) rfl ?_)
  clear g1 g2 g3 g4 G1 G2 G3 G4 s1 s2 s3 s4 t1 t2 t3 t4
  refine wpList_letterW (fun w' => Blk w' w.heap.size 145 (u32V (l.set i a2)) ∧ Blk w' (w.heap.size + 1) 145 (u32V (zeros32 16)) ∧ Below w.heap.size w w') ⟨by have h := hB0.setCell_same i (.int .u32 (a2 : Nat)); rw [u32V_put] at h; exact h, hB1.setCell_other _ _ (by simp), hbe.setCell (by simp) _⟩ ?_
  clear hB0 hB1 hbe f
  rintro w2 ⟨hB0, hB1, hbe⟩
  have f := hB0.frozen
  have g2 := hB0.cell (u32V_get (l.set i a2) j (by have := HL.out; simp; omega))
  go_wp2_with (with_reducible refine wpList_stop (.indexAddr 145 (.tmp 5) (.tmp 61)) rfl ?_)
  refine wpList_letterW (fun w' => Blk w' w.heap.size 145 (u32V ((l.set i a2).set j b2)) ∧ Blk w' (w.heap.size + 1) 145 (u32V (zeros32 16)) ∧ Below w.heap.size w w') ⟨by have h := hB0.setCell_same j (.int .u32 (b2 : Nat)); rw [u32V_put] at h; exact h, hB1.setCell_other _ _ (by simp), hbe.setCell (by simp) _⟩ ?_
  clear hB0 hB1 hbe f g2
  rintro w3 ⟨hB0, hB1, hbe⟩
  have f := hB0.frozen
  have g3 := hB0.cell (u32V_get ((l.set i a2).set j b2) k (by have := HL.out; simp; omega))
  go_wp2_with (with_reducible refine wpList_stop (.indexAddr 145 (.tmp 5) (.tmp 64)) rfl ?_)
  refine wpList_letterW (fun w' => Blk w' w.heap.size 145 (u32V (((l.set i a2).set j b2).set k c2)) ∧ Blk w' (w.heap.size + 1) 145 (u32V (zeros32 16)) ∧ Below w.heap.size w w') ⟨by have h := hB0.setCell_same k (.int .u32 (c2 : Nat)); rw [u32V_put] at h; exact h, hB1.setCell_other _ _ (by simp), hbe.setCell (by simp) _⟩ ?_
  clear hB0 hB1 hbe f g3
  rintro w4 ⟨hB0, hB1, hbe⟩
  have f := hB0.frozen
  have g4 := hB0.cell (u32V_get (((l.set i a2).set j b2).set k c2) m (by have := HL.out; simp; omega))
  go_wp2_with (with_reducible refine wpList_stop (.load 145 (.tmp 5)) rfl ?_)
  refine wpList_letterW (fun w' => Blk w' w.heap.size 145 (u32V ((((l.set i a2).set j b2).set k c2).set m d2)) ∧ Blk w' (w.heap.size + 1) 145 (u32V (zeros32 16)) ∧ Below w.heap.size w w') ⟨by have h := hB0.setCell_same m (.int .u32 (d2 : Nat)); rw [u32V_put] at h; exact h, hB1.setCell_other _ _ (by simp), hbe.setCell (by simp) _⟩ ?_
  clear hB0 hB1 hbe f g4
  rintro w5 ⟨hB0, hB1, hbe⟩
  have f := hB0.frozen
  have LQ := hide (show (u32V ((((l.set i a2).set j b2).set k c2).set m d2)).length = 16 by rw [u32V_len]; have := HL.out; simpa using this)
  have LZ := hide ((u32V_len (zeros32 16)).trans (zeros32_len 16))
  generalize (((l.set i a2).set j b2).set k c2).set m d2 = l2 at *
  go_wp2_with (first | ((with_reducible refine wpList_at (.load 145 (.tmp 5)) rfl ?_); refine wpList_load_row rfl 145 (.tmp 5) rfl w.heap.size rfl 16 130 Tryz.underlying145 info16 (u32V l2) 145 hB0 LQ.out ?_) | ((with_reducible refine wpList_at (.store 145 (.tmp 10) (.tmp 67)) rfl ?_); refine wpList_store_row rfl 145 (.tmp 10) (.tmp 67) rfl (w.heap.size + 1) rfl 16 info16 (u32V l2) rfl LQ.out (u32V_one _) (u32V (zeros32 16)) 145 hB1 LZ.out ?_; intro w9 hB9 hG9))
  exact ret_rowB Tryz.results186 (w.heap.size + 1) rfl 16 130 Tryz.underlying145 info16 (u32V l2) 145 hB9 LQ.out rfl ⟨by rw [HQ.out], hbe.trans (RowKit.Below.of_grown hG9 (by omega) hbe.size)⟩
end Go.Proofs.YtfidnpchkfpoeaaGreatDoor
namespace Go.Proofs.YtfidnpchkfpoeaaGreatDoor
open Go.RowKit

theorem World.grownBy.own {a w w' : World} {b : Nat} {row : Option Nat} (h : a.grownBy w (some b)) (k : w.grownBy w' row) (hr : ∀ x, row = some x → a.heap.size ≤ x) : a.grownBy w' (some b) :=
  ⟨k.os.trans h.os, k.tape.trans h.tape, k.output.trans h.output, Nat.le_trans h.size k.size, fun i hi hne => by
    rw [k.block i (Nat.lt_of_lt_of_le hi h.size) (fun e => absurd (hr i e.symm) (by omega))]
    exact h.block i hi hne⟩
theorem wp_letterA {P : Program} {c : Code} {Q : Exit → Act → World → Prop} {a : Act} {w : World} (h : ∀ A : Act, A = a → c.wp P Q A w) : c.wp P Q a w := h a rfl
theorem step_call {P : Program} {ops : Array Oper} {o : Oper} {a : Act} {w : World} {K : Act → World → Prop} {Q : Exit → Act → World → Prop} {E : Prop} (hg : o.guard = none) (f : FuncId) (xs : Array Operand) (ats : Array TypeId)
    (ho : o.op = .call { callee := .value (.func f), args := xs, argTypes := ats }) (us : Array Value) (hx : xs.map a.eval = us) (hc : ∀ args w, (callFunc f args).run P w = .ok (.enter f args) w)
    (h : Calls P f us w fun e w' => ∃ r, e = .returned r ∧ K (a.put o.dst r) w') : if Region.wanted o (yielded ops a.tmps) = true then Oper.wp P o a w K Q else E := by
  rw [if_pos (by simp [Region.wanted, hg])]
  have e : (execOp a.eval o).run P w = .ok (.enter f us) w := by
    unfold execOp
    simp [ho, resolve, invoke, hx, hc, Act.eval, Deferred.ofValue]
  unfold Oper.wp
  rw [e, Oper.upon_enter]
  exact h.mono (by rintro e w' ⟨r, rfl, hk⟩; exact hk)
end Go.Proofs.YtfidnpchkfpoeaaGreatDoor
