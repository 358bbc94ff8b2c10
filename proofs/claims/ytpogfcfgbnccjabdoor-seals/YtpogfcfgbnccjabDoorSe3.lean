import Derived.Test.YtpogfcfgbnccjabDoorSe2
namespace Go.Proofs.YtpogfcfgbnccjabDoor
open Go.ChangeShapes Go.WideShapes Go.ChangeAt Go.RowKit Go.Deep

/-- An argument that is a text. -/
theorem open_text0 {H : Type} {enc : TypeId × Value → H} {P : Program} {t : TypeId} (ht : P.underlying t = some .string) {W : World} {r : Reach} {b0 base : Nat} {sp : Nat → Bool} {held : Bool} {v : Value} {d : DataW H} {ps : List MemPlace} (hval : Value.okWide P W r b0 t v) (hd : DataW.Trod enc P W base sp held t v d ps) :
    ∃ s : ByteArray, v = .string s ∧ d = .lit (.string s.data.toList) ∧ ps = [] ∧ s.size ≤ maxLen := by
  obtain ⟨s, rfl⟩ := okWide_string ht hval
  obtain ⟨fuel, hf⟩ := hd
  obtain ⟨s', h, hx, hs⟩ := DataW.trod_string ht hf
  simp [Value.cells] at h
  subst h
  simp only [Prod.mk.injEq] at hx
  exact ⟨s, rfl, hx.1, hx.2, hs⟩
theorem shut_text0 {H : Type} {enc : TypeId × Value → H} {P : Program} {t : TypeId} (ht : P.underlying t = some .string) {W : World} {base : Nat} {sp : Nat → Bool} {held : Bool} {s : ByteArray} (hs : s.size ≤ maxLen) : DataW.Trod enc P W base sp held t (.string s) (.lit (.string s.data.toList)) [] :=
  ⟨1, by simp [DataW.trod, Value.cells, ht, hs]⟩
set_option maxRecDepth 100000 in
theorem open_text {H : Type} {enc : TypeId × Value → H} {W : World} {r : Reach} {b0 base : Nat} {sp : Nat → Bool} {held : Bool} {v : Value} {d : DataW H} {ps : List MemPlace} (hval : Value.okWide Tryd.prog W r b0 9 v) (hd : DataW.Trod enc Tryd.prog W base sp held 9 v d ps) :
    ∃ s : ByteArray, v = .string s ∧ d = .lit (.string s.data.toList) ∧ ps = [] ∧ s.size ≤ maxLen := open_text0 Tryd.underlying9 hval hd
set_option maxRecDepth 100000 in
theorem shut_text {H : Type} {enc : TypeId × Value → H} {W : World} {base : Nat} {sp : Nat → Bool} {held : Bool} {s : ByteArray} (hs : s.size ≤ maxLen) : DataW.Trod enc Tryd.prog W base sp held 9 (.string s) (.lit (.string s.data.toList)) [] := shut_text0 Tryd.underlying9 hs
end Go.Proofs.YtpogfcfgbnccjabDoor
namespace Go.Proofs.YtpogfcfgbnccjabDoor
open Go.ChangeShapes Go.WideShapes Go.ChangeAt Go.RowKit Go.Deep

set_option maxRecDepth 100000 in
/-- FOR EVERY ARGUMENT, AND EVERY WORLD THAT HOLDS THE TABLES. -/
theorem seals_contract (HBL : BlockOK) (HBG : BeginOK) (HX : XorOK) (HSE : SealOK) (HOP : OpenOK) (H : Type) (enc : TypeId × Value → H) (W : World) (base : Nat) (args : Array Value) (ds gs : List (DataW H)) (before : List MemPlace)
    (hval : ∀ (j : Nat) t v, Tryd.f3.params[j]? = some t → args[j]? = some v → Value.okWide Tryd.prog W .any base t v)
    (hW : DataW.Whole enc Tryd.prog Tryd.f3.params.toList Rows.sealsSpec.vars false W args.toList ds gs before)
    (hL : laidMetH Tryd.prog Rows.sealsRow.laid W) :
    Calls Tryd.prog 3 args W fun e W' => ∃ v, e = .returned v ∧ Rows.sealsSpec.post enc Tryd.prog Tryd.f3 false true false false W args v W' := by
  have hW' := hW
  obtain ⟨p, q, hA0, hV, rfl, hfz, hnd⟩ := hW
  have hA : DataW.TrodAll enc Tryd.prog W 0 (fun _ => true) true Tryd.f3.params.toList args.toList ds p := hA0
  rw [Tryd.params3] at hA hval
  obtain ⟨v0, v1, d0, d1, p0, p1, rfl, rfl, rfl, h0, h1⟩ := trodAll_two hA
  obtain ⟨rfl, rfl⟩ := trodVars_none hV
  obtain ⟨s, rfl, rfl, rfl, hs⟩ := open_text (hval 0 9 v0 rfl rfl) h0
  obtain ⟨t, rfl, rfl, rfl, ht⟩ := open_text (hval 1 9 v1 rfl rfl) h1
  clear hA0 hfz hnd
  simp only [List.append_nil] at hW'
  obtain ⟨hh, hk⟩ := tabs2 hL
  have h2 : 2 ≤ W.heap.size := World.block_lt_of_cell? W _ (hk 0 (by decide))
  refine (sealsLaw_any HBL HBG HX HSE HOP s t W hs ht hk hh h2).mono fun e W' ⟨he, hb⟩ => ?_
  subst he
  refine ⟨_, rfl, _, _, _, [], [], [], hW', ?_, trodAll_mk2 (shut_text hs) (shut_text ht), rfl, hb.frame _, fun h => by cases h⟩
  exact trodAll_mk1 (shut_bool Tryd.underlying4 _)

theorem seals_laid_met (os : Os) : laidMet Tryd.prog Rows.sealsRow.laid ((laidWorld Tryd.prog os).forCall (fun _ _ => 0) ⟨#[], #[.string ⟨#[]⟩, .string ⟨#[]⟩], []⟩).memory :=
  laidMet_of_run' 8 (by kernel_rfl) (by kernel_rfl)
theorem seals_reads (os : Os) {H : Type} (enc : TypeId × Value → H) : ∃ places, DataW.whole enc Tryd.prog ((laidWorld Tryd.prog os).forCall (fun _ _ => 0) ⟨#[], #[.string ⟨#[]⟩, .string ⟨#[]⟩], []⟩).memory Tryd.f3.params.toList Rows.sealsSpec.vars false #[Value.string ⟨#[]⟩, Value.string ⟨#[]⟩].toList 8 = some ([.lit (.string []), .lit (.string [])], [], places) :=
  ⟨[], by kernel_rfl⟩

set_option maxRecDepth 100000 in
theorem seals_lifted (HBL : BlockOK) (HBG : BeginOK) (HX : XorOK) (HSE : SealOK) (HOP : OpenOK) (os : Os) (started : os.Started) (H : Type) (enc : TypeId × Value → H) (F : Stop.Interp) :
    ReturnsInHanded {} Tryd.checked os 3 .any ((OpenSpec.ofChange Rows.sealsSpec).preRow enc Tryd.prog Tryd.f3 Rows.sealsRow.domain false Rows.sealsRow.laid) (((OpenSpec.ofChange Rows.sealsSpec).at F).post enc Tryd.prog Tryd.f3 false true false false) := by
  obtain ⟨places, hx⟩ := seals_reads os enc
  refine returnsInHanded_of_row (C := Tryd.checked) (s := OpenSpec.ofChange Rows.sealsSpec) own started (by kernel_rfl) Tryd.func3
    (witness_row_at (enc := enc) (C := Tryd.checked) false (laidWorld Tryd.prog os) #[.string ⟨#[]⟩, .string ⟨#[]⟩] rfl (by kernel_rfl) (by kernel_rfl) (by kernel_rfl)
      (OpenSpec.preRow_of_cond 8 hx (by kernel_rfl) (fun k hk => by cases hk) (by kernel_rfl) (seals_laid_met os))) ?_
  intro W base args ds gs before hval hW _ _ _ hL _ _
  exact seals_contract HBL HBG HX HSE HOP H enc W base args ds gs before hval hW hL

theorem seals_j1 : Tryd.prog.inPlace 3 = Rows.sealsRow.inPlace := by kernel_rfl
theorem seals_j2 : Tryd.prog.unfollowed 3 = Rows.sealsRow.unfollowed := by kernel_rfl
theorem seals_j3 : Tryd.prog.recurses 3 = Rows.sealsRow.recurses := by kernel_rfl
theorem seals_j4 : Tryd.prog.varsNamed 3 = Rows.sealsRow.named := by kernel_rfl
theorem seals_j : joinedFacts Tryd.prog 3 Tryd.f3 (OpenSpec.ofChange Rows.sealsSpec).bare Rows.sealsRow = true := by
  unfold joinedFacts
  rw [seals_j1, seals_j2, seals_j3, seals_j4]
  kernel_rfl
theorem seals_said (HBL : BlockOK) (HBG : BeginOK) (HX : XorOK) (HSE : SealOK) (HOP : OpenOK) : Rows.SealsSaid :=
  OpenClaim.holds_of_cond 3 Tryd.f3 rfl rfl rfl rfl rfl rfl rfl ⟨rfl, rfl, rfl, rfl, rfl⟩ rfl rfl rfl rfl rfl (by kernel_rfl) Tryd.func3 seals_j
    (of_decide_eq_true (by kernel_rfl)) (by unfold Func.isWrapper; first | (rw [if_pos (by decide +kernel)]; kernel_rfl) | (rw [if_neg (by decide +kernel)]; exact ⟨rfl, rfl⟩))
    (fun os started H enc _ F => by rw [OpenClaim.pre_eq_preRow]; exact seals_lifted HBL HBG HX HSE HOP os started H enc F)

theorem seals_plain (f : FuncId) (fn : Func) (hf : Tryd.pinned.checked.prog.funcNamed "strongbox/strongboxkeep.Seals" = some f) (hfn : Tryd.pinned.checked.prog.funcs[f]? = some fn) :
    false = Tryd.pinned.checked.prog.looks [] ∧ ∀ (j : Nat) t, fn.params[j]? = some t → Tryd.pinned.checked.prog.wantsStandIn t = false := by
  obtain rfl : f = 3 := Option.some.inj ((show Tryd.prog.funcNamed "strongbox/strongboxkeep.Seals" = some 3 by kernel_rfl).symm.trans hf) |>.symm
  obtain rfl : fn = Tryd.f3 := (Option.some.inj (Tryd.func3.symm.trans hfn)).symm
  refine ⟨by kernel_rfl, fun j t ht => ?_⟩
  rw [Tryd.params3] at ht
  obtain rfl : t = 9 := by simpa using Array.mem_of_getElem? ht
  exact (show Tryd.prog.wantsStandIn 9 = false by kernel_rfl)

theorem seals_card_of (HBL : BlockOK) (HBG : BeginOK) (HX : XorOK) (HSE : SealOK) (HOP : OpenOK) : Rows.SealsCardSaid :=
  Claim7.holds_tied_plain_at .later [] _ _ _ _ (seals_said HBL HBG HX HSE HOP) (fun _ h => by cases h) (by kernel_rfl) (fun _ h => by cases h) seals_row_tie rfl ⟨rfl, rfl⟩ (by kernel_rfl) rfl seals_plain (by kernel_rfl)
end Go.Proofs.YtpogfcfgbnccjabDoor
namespace Go.Proofs.YtpogfcfgbnccjabDoor
open Go.RowKit

theorem u32V_len (l : List Nat) : (u32V l).length = l.length := by simp [u32V]
theorem u32V_get (l : List Nat) (i : Nat) (h : i < l.length) : (u32V l)[i]? = some (.int .u32 ((l.getD i 0 : Nat) : Int)) := by
  simp [u32V, List.getD, h]
theorem u32V_put (l : List Nat) (i x : Nat) : (u32V l).set i (.int .u32 ((x : Nat) : Int)) = u32V (l.set i x) := by
  unfold u32V
  rw [List.map_set]
theorem u8V_len (l : List UInt8) : (u8V l).length = l.length := by simp [u8V]
theorem u8V_one (l : List UInt8) : ∀ v ∈ u8V l, v.oneCell' = true := by
  intro v hv
  obtain ⟨x, _, rfl⟩ := List.mem_map.1 hv
  rfl
/-- A whole row is loaded out of its block. -/
theorem wpList_load_row {P : Program} {ops : Array Oper} {rest : List Oper} {op : Oper} {a : Act} {w : World} {Q : Exit → Act → World → Prop} (hgd : op.guard = none) (ty : TypeId) (x : Operand) (ho : op.op = .load ty x)
    (b : Nat) (hx : a.eval x = .pointer (some ⟨b, 0, none⟩)) (n : Nat) (e : TypeId) (hu : P.underlying ty = some (.array n e)) (hi : (P.info? ty).map (·.size) = some n) (cs : List Value) (t : TypeId) (hb : Blk w b t cs) (hl : cs.length = n)
    (h : wpList P ops Q rest (a.put op.dst (.agg cs.toArray)) w) : wpList P ops Q (op :: rest) a w :=
  wpList_load_mid hgd ty x ho b 0 hx cs (.array n e) hb.rangeAll hu rfl (by rw [hl]; exact hi) h
/-- A whole row is stored over its block. -/
theorem wpList_store_row {P : Program} {ops : Array Oper} {rest : List Oper} {op : Oper} {a : Act} {w : World} {Q : Exit → Act → World → Prop} (hgd : op.guard = none) (ty : TypeId) (x y : Operand) (ho : op.op = .store ty x y)
    (b : Nat) (hx : a.eval x = .pointer (some ⟨b, 0, none⟩)) (n : Nat) (hi : (P.info? ty).map (·.size) = some n) (cs : List Value) (hy : a.eval y = .agg cs.toArray) (hl : cs.length = n) (h1 : ∀ v ∈ cs, v.oneCell' = true) (old : List Value) (t : TypeId) (hb : Blk w b t old) (hol : old.length = n)
    (h : ∀ w', Blk w' b t cs → w.grownBy w' (some b) → wpList P ops Q rest (a.put op.dst undef) w') : wpList P ops Q (op :: rest) a w :=
  wpList_store_blk hgd ty x y ho b 0 cs.toArray hx hy (by rw [hi]; simp [hl]) (all_oneCell_toArray h1) t old hb (by simp [hl, hol])
    fun w' h1 h2 => h w' (by rw [laidOver_all _ _ (by simp [hl, hol])] at h1; exact h1) h2
/-- A row is handed back out of the result's block. -/
theorem ret_rowB {P : Program} {fn : Func} {R : Ending → World → Prop} {a : Act} {w : World} {p : Tmp} {ty : TypeId} (h : fn.results = #[.cell p ty]) (b : Nat) (hp : a.tmps.getD p undef = .pointer (some ⟨b, 0, none⟩))
    (n : Nat) (e : TypeId) (hu : P.underlying ty = some (.array n e)) (hi : (P.info? ty).map (·.size) = some n) (cs : List Value) (t : TypeId) (hb : Blk w b t cs) (hl : cs.length = n) (hdf : a.defers = [])
    (hR : R (.returned (.agg cs.toArray)) w) : bodyPost P fn R .ret a w :=
  ret_row h b 0 hp cs (.array n e) hb.rangeAll hu rfl (by rw [hl]; exact hi) hdf hR
/-- An empty list that is not nil. -/
theorem Row.zero {w : World} {base g : Nat} {e : TypeId} (hb : base ≤ g) (h : Blk w g e []) : Row w base e 1 (.slice (some ⟨g, 0, none⟩) 0 0) 0 [] :=
  ⟨rfl, .inr ⟨g, 0, [], rfl, hb, h.marked, Nat.le_refl _, by decide, rfl, rfl⟩⟩
/-- The walk stops at this operation. -/
theorem wpList_stop {P : Program} {ops : Array Oper} {rest : List Oper} {op : Oper} {a : Act} {w : World} {Q : Exit → Act → World → Prop} (x : Op) (_ : op.op = x) (h : Hid (wpList P ops Q (op :: rest) a w)) : wpList P ops Q (op :: rest) a w := h
/-- The walk stands at this operation. -/
theorem wpList_at {P : Program} {ops : Array Oper} {rest : List Oper} {op : Oper} {a : Act} {w : World} {Q : Exit → Act → World → Prop} (x : Op) (_ : op.op = x) (h : wpList P ops Q (op :: rest) a w) : wpList P ops Q (op :: rest) a w := h
theorem wpList_letterW {P : Program} {ops : Array Oper} {l : List Oper} {a : Act} {w : World} {Q : Exit → Act → World → Prop} (F : World → Prop) (hF : F w) (h : ∀ w', F w' → wpList P ops Q l a w') : Hid (wpList P ops Q l a w) := h w hF
/-- v turned to the left by n, as the program does it. -/
theorem or_rotl_int (v n : Nat) (hv : v < 4294967296) (hn : n ≤ 32) :
    bits .or .u32 ((v : Int) * 2 ^ n % 4294967296) ((v : Int) / 2 ^ (32 - n)) = (Cha.rotl v n : Nat) := by
  have e1 : ((v : Int) / 2 ^ (32 - n)) = ((v / 2 ^ (32 - n) : Nat) : Int) := by rw [Int.natCast_ediv, Int.natCast_pow]; rfl
  have e2 : ((v : Int) * 2 ^ n % 4294967296) = ((v * 2 ^ n % 4294967296 : Nat) : Int) := by
    rw [← cast_mulmod, Int.natCast_pow]; rfl
  have hp : 2 ^ (32 - n) * 2 ^ n = 4294967296 := by rw [← Nat.pow_add, show 32 - n + n = 32 by omega]
  have hq : 0 < 2 ^ (32 - n) := Nat.two_pow_pos _
  have h1 : v / 2 ^ (32 - n) < 2 ^ n := (Nat.div_lt_iff_lt_mul hq).2 (by rw [Nat.mul_comm, hp]; exact hv)
  have h3 : v * 2 ^ n % 4294967296 = v % 2 ^ (32 - n) * 2 ^ n := by rw [← hp, Nat.mul_mod_mul_right]
  have h4 : v / 2 ^ (32 - n) < 4294967296 := Nat.lt_of_le_of_lt (Nat.div_le_self _ _) hv
  rw [e1, e2, u32_or_nat _ _ (Nat.mod_lt _ (by omega)) h4, h3, or_shift _ _ _ h1]
  rfl
end Go.Proofs.YtpogfcfgbnccjabDoor
namespace Go.Proofs.YtpogfcfgbnccjabDoor
open Go.RowKit

set_option maxHeartbeats 400000 in
theorem turnLeft_any (v n : Nat) (w : World) (hv : v < 4294967296) (hn : n ≤ 32) :
    Calls Tryd.prog 100 #[.int .u32 v, .int .u32 n] w fun e w' => e = .returned (.int .u32 (Cha.rotl v n : Nat)) ∧ w' = w := by
  go_enter Tryd.func100, Tryd.ntmps100
  go_wp2
  go_ret
  exact ⟨ret_int (or_rotl_int v n hv hn), rfl⟩
theorem sumc (a b : Nat) : ((a : Int) + (b : Int)) % 4294967296 = (((a + b) % 4294967296 : Nat) : Int) := by omega
theorem info16 : (Tryd.prog.info? 63).map (·.size) = some 16 := by kernel_rfl
theorem zeros32_len (n : Nat) : (zeros32 n).length = n := by simp [zeros32]

/-- One half of a quarter round: the numbers that the walk meets. -/
theorem half_nums (a b c d m n : Nat) (hm : m ≤ 32) (hn : n ≤ 32) (_ : a < 4294967296) (hb : b < 4294967296) (_ : c < 4294967296) (hd : d < 4294967296) :
    ∃ a1 x1 d1 c1 x2 b1 : Nat, (⟨a1, b1, c1, d1⟩ : Cha.Q4) = Cha.Q4.half ⟨a, b, c, d⟩ m n ∧ ((a : Int) + (b : Int)) % 4294967296 = (a1 : Int) ∧ bits .xor .u32 (d : Int) (a1 : Int) = (x1 : Int) ∧ d1 = Cha.rotl x1 m ∧ ((c : Int) + (d1 : Int)) % 4294967296 = (c1 : Int) ∧ bits .xor .u32 (b : Int) (c1 : Int) = (x2 : Int) ∧ b1 = Cha.rotl x2 n ∧
      x1 < 4294967296 ∧ x2 < 4294967296 ∧ a1 < 4294967296 ∧ b1 < 4294967296 ∧ c1 < 4294967296 ∧ d1 < 4294967296 := by
  have q (x : Nat) : x % 4294967296 < 4294967296 := Nat.mod_lt _ (by decide)
  have x1 := Nat.xor_lt_two_pow (n := 32) hd (q (a + b))
  have x2 := Nat.xor_lt_two_pow (n := 32) hb (q (c + Cha.rotl (d ^^^ (a + b) % 4294967296) m))
  exact ⟨_, _, _, _, _, _, rfl, sumc a b, u32_xor_nat _ _ hd (q _), rfl, sumc _ _, u32_xor_nat _ _ hb (q _), rfl, x1, x2, q _, Cha.rotl_lt _ _ hn x2, q _, Cha.rotl_lt _ _ hm x1⟩

set_option maxRecDepth 100000 in
set_option maxHeartbeats 1600000 in
theorem quarter_any (l : List Nat) (i j k m : Nat) (w : World) (hl : Cha.Ok l) (hi : i < 16) (hj : j < 16) (hk : k < 16) (hm : m < 16)
    (h1 : i ≠ j) (h2 : i ≠ k) (h3 : i ≠ m) (h4 : j ≠ k) (h5 : j ≠ m) (h6 : k ≠ m) :
    Calls Tryd.prog 80 #[.agg (u32V l).toArray, .int .i64 (i : Nat), .int .i64 (j : Nat), .int .i64 (k : Nat), .int .i64 (m : Nat)] w fun e w' => e = .returned (.agg (u32V (Cha.quarter l i j k m)).toArray) ∧ Below w.heap.size w w' := by
  have hq := Cha.quarter_eq l i j k m hl.1 hi hj hk hm h1 h2 h3 h4 h5 h6
  obtain ⟨a1, x1, d1, c1, x2, b1, e1, s1, t1, r1, s2, t2, r2, y1, y2, ba, bb, bc, bd⟩ := half_nums (l.getD i 0) (l.getD j 0) (l.getD k 0) (l.getD m 0) 16 12 (by decide) (by decide) (hl.at i hi) (hl.at j hj) (hl.at k hk) (hl.at m hm)
  obtain ⟨a2, x3, d2, c2, x4, b2, e2, s3, t3, r3, s4, t4, r4, y3, y4, _, _, _, _⟩ := half_nums a1 b1 c1 d1 8 7 (by decide) (by decide) ba bb bc bd
  unfold Cha.q4 at hq
  rw [← e1, ← e2] at hq
  have hlen := hl.1
  have HQ := hide hq
  have HL := hide hlen
  have T1 := hide (fun w => turnLeft_any x1 16 w y1 (by decide))
  have T2 := hide (fun w => turnLeft_any x2 12 w y2 (by decide))
  have T3 := hide (fun w => turnLeft_any x3 8 w y3 (by decide))
  have T4 := hide (fun w => turnLeft_any x4 7 w y4 (by decide))
  rw [← r1] at T1
  rw [← r2] at T2
  rw [← r3] at T3
  rw [← r4] at T4
  have G1 := u32V_get l i (by omega)
  have G2 := u32V_get l j (by omega)
  have G3 := u32V_get l k (by omega)
  have G4 := u32V_get l m (by omega)
  generalize l.getD i 0 = va at *
  generalize l.getD j 0 = vb at *
  generalize l.getD k 0 = vc at *
  generalize l.getD m 0 = vd at *
  clear hq e1 e2 r1 r2 r3 r4 y1 y2 y3 y4 ba bb bc bd hl hlen h1 h2 h3 h4 h5 h6
  have ji : (i : Int) < 16 := by omega
  have jj : (j : Int) < 16 := by omega
  have jk : (k : Int) < 16 := by omega
  have jm : (m : Int) < 16 := by omega
  go_enter Tryd.func80, Tryd.ntmps80
  go_wp2_with (with_reducible refine wpList_stop (.indexAddr 63 (.tmp 5) (.tmp 15)) rfl ?_)
  refine wpList_letterW (fun w' => Blk w' w.heap.size 63 (u32V l) ∧ Blk w' (w.heap.size + 1) 63 (u32V (zeros32 16)) ∧ Below w.heap.size w w') ⟨(Blk.new rfl rfl).alloc _, Blk.new (by simp) rfl, ((Below.refl _ _).alloc (Nat.le_refl _) _).alloc (by simp) _⟩ ?_
  rintro w1 ⟨hB0, hB1, hbe⟩
  have g1 := hB0.cell G1
  have g2 := hB0.cell G2
  have g3 := hB0.cell G3
  have g4 := hB0.cell G4
  have f := hB0.frozen
  go_wp2_with fail
  refine (T1.out _).mono ?_
  rintro e w' ⟨rfl, rfl⟩
  go_wp2_with fail
  refine (T2.out _).mono ?_
  rintro e w' ⟨rfl, rfl⟩
  go_wp2_with fail
  refine (T3.out _).mono ?_
  rintro e w' ⟨rfl, rfl⟩
  go_wp2_with fail
  refine (T4.out _).mono ?_
  rintro e w' ⟨rfl, rfl⟩
  clear T1 T2 T3 T4
  go_wp2_with (with_reducible refine wpList_stop (.indexAddr 63 (.tmp 5) (.tmp 58)) rfl ?_)
  clear g1 g2 g3 g4 G1 G2 G3 G4 s1 s2 s3 s4 t1 t2 t3 t4
  refine wpList_letterW (fun w' => Blk w' w.heap.size 63 (u32V (l.set i a2)) ∧ Blk w' (w.heap.size + 1) 63 (u32V (zeros32 16)) ∧ Below w.heap.size w w') ⟨by have h := hB0.setCell_same i (.int .u32 (a2 : Nat)); rw [u32V_put] at h; exact h, hB1.setCell_other _ _ (by simp), hbe.setCell (by simp) _⟩ ?_
  clear hB0 hB1 hbe f
  rintro w2 ⟨hB0, hB1, hbe⟩
  have f := hB0.frozen
  have g2 := hB0.cell (u32V_get (l.set i a2) j (by have := HL.out; simp; omega))
  go_wp2_with (with_reducible refine wpList_stop (.indexAddr 63 (.tmp 5) (.tmp 61)) rfl ?_)
  refine wpList_letterW (fun w' => Blk w' w.heap.size 63 (u32V ((l.set i a2).set j b2)) ∧ Blk w' (w.heap.size + 1) 63 (u32V (zeros32 16)) ∧ Below w.heap.size w w') ⟨by have h := hB0.setCell_same j (.int .u32 (b2 : Nat)); rw [u32V_put] at h; exact h, hB1.setCell_other _ _ (by simp), hbe.setCell (by simp) _⟩ ?_
  clear hB0 hB1 hbe f g2
  rintro w3 ⟨hB0, hB1, hbe⟩
  have f := hB0.frozen
  have g3 := hB0.cell (u32V_get ((l.set i a2).set j b2) k (by have := HL.out; simp; omega))
  go_wp2_with (with_reducible refine wpList_stop (.indexAddr 63 (.tmp 5) (.tmp 64)) rfl ?_)
  refine wpList_letterW (fun w' => Blk w' w.heap.size 63 (u32V (((l.set i a2).set j b2).set k c2)) ∧ Blk w' (w.heap.size + 1) 63 (u32V (zeros32 16)) ∧ Below w.heap.size w w') ⟨by have h := hB0.setCell_same k (.int .u32 (c2 : Nat)); rw [u32V_put] at h; exact h, hB1.setCell_other _ _ (by simp), hbe.setCell (by simp) _⟩ ?_
  clear hB0 hB1 hbe f g3
  rintro w4 ⟨hB0, hB1, hbe⟩
  have f := hB0.frozen
  have g4 := hB0.cell (u32V_get (((l.set i a2).set j b2).set k c2) m (by have := HL.out; simp; omega))
  go_wp2_with (with_reducible refine wpList_stop (.load 63 (.tmp 5)) rfl ?_)
  refine wpList_letterW (fun w' => Blk w' w.heap.size 63 (u32V ((((l.set i a2).set j b2).set k c2).set m d2)) ∧ Blk w' (w.heap.size + 1) 63 (u32V (zeros32 16)) ∧ Below w.heap.size w w') ⟨by have h := hB0.setCell_same m (.int .u32 (d2 : Nat)); rw [u32V_put] at h; exact h, hB1.setCell_other _ _ (by simp), hbe.setCell (by simp) _⟩ ?_
  clear hB0 hB1 hbe f g4
  rintro w5 ⟨hB0, hB1, hbe⟩
  have f := hB0.frozen
  have LQ := hide (show (u32V ((((l.set i a2).set j b2).set k c2).set m d2)).length = 16 by rw [u32V_len]; have := HL.out; simpa using this)
  have LZ := hide ((u32V_len (zeros32 16)).trans (zeros32_len 16))
  generalize (((l.set i a2).set j b2).set k c2).set m d2 = l2 at *
  go_wp2_with (first | ((with_reducible refine wpList_at (.load 63 (.tmp 5)) rfl ?_); refine wpList_load_row rfl 63 (.tmp 5) rfl w.heap.size rfl 16 62 Tryd.underlying63 info16 (u32V l2) 63 hB0 LQ.out ?_) | ((with_reducible refine wpList_at (.store 63 (.tmp 10) (.tmp 67)) rfl ?_); refine wpList_store_row rfl 63 (.tmp 10) (.tmp 67) rfl (w.heap.size + 1) rfl 16 info16 (u32V l2) rfl LQ.out (u32V_one _) (u32V (zeros32 16)) 63 hB1 LZ.out ?_; intro w9 hB9 hG9))
  exact ret_rowB Tryd.results80 (w.heap.size + 1) rfl 16 62 Tryd.underlying63 info16 (u32V l2) 63 hB9 LQ.out rfl ⟨by rw [HQ.out], hbe.trans (RowKit.Below.of_grown hG9 (by omega) hbe.size)⟩
end Go.Proofs.YtpogfcfgbnccjabDoor
namespace Go.Proofs.YtpogfcfgbnccjabDoor
open Go.RowKit

theorem info17 : (Tryd.prog.info? 138).map (·.size) = some 17 := by kernel_rfl
theorem LZ17 : (u32V (zeros32 17)).length = 17 := (u32V_len _).trans (zeros32_len 17)
theorem L17 {l : List Nat} (h : l.length = 17) : (u32V l).length = 17 := (u32V_len _).trans h
/-- What carry does to one digit. -/
theorem carry_nums (x v : Nat) (hx : x < 4278190080) (hv : v < 16777216) : ∃ s y z : Nat, ((x : Int) + (v : Int)) % 4294967296 = (s : Int) ∧ bits .and .u32 (s : Int) 255 = (y : Int) ∧ (s : Int) / 256 = (z : Int) ∧ z < 16777216 ∧ s < 4294967296 ∧ y = (x + v) % 256 ∧ z = (x + v) / 256 := by
  refine ⟨x + v, (x + v) % 256, (x + v) / 256, by omega, ?_, by omega, by omega, by omega, rfl, rfl⟩
  have h := u32_and_nat (x + v) 255 (by omega) (by decide)
  rw [Pol.and255] at h
  exact h

set_option maxRecDepth 100000 in
set_option maxHeartbeats 1600000 in
theorem carry_any (l : List Nat) (w : World) (hl : l.length = 17) (hd : ∀ i, l.getD i 0 < 4278190080) :
    Calls Tryd.prog 109 #[.agg (u32V l).toArray] w fun e w' => (∃ c, e = .returned (.agg (u32V c).toArray) ∧ Pol.Car c ∧ Dig.val c = Dig.val l) ∧ Below w.heap.size w w' := by
  go_enter Tryd.func109, Tryd.ntmps109
  go_wp2
  go_loopw [3, 4] (fun vo vi wr => ∃ (i v : Nat) (c : List Nat), i ≤ 16 ∧ vi = .int .i64 (i : Nat) ∧ vo = .int .u32 (v : Nat) ∧ v < 16777216 ∧ Pol.Carry l c i v ∧ Blk wr (w.heap.size) 138 (u32V c) ∧ Blk wr (w.heap.size + 1) 138 (u32V (zeros32 17)) ∧ Below w.heap.size w wr) (fun _ i _ => 16 - (intOf i).toNat)
  case atStart => exact ⟨0, 0, l, by omega, rfl, rfl, by decide, Pol.Carry.start l hl, (Blk.new rfl rfl).alloc _, Blk.new (by simp) rfl, ((Below.refl _ _).alloc (Nat.le_refl _) _).alloc (by simp) _⟩
  case round =>
    obtain ⟨i, v, c, hi, rfl, rfl, hv, hC, hB, hR, hbe⟩ := hrel
    have hcl := hC.1
    by_cases hlt : i < 16
    · have hci : c.getD i 0 < 4278190080 := by rw [hC.2.2.2 i (Nat.le_refl _)]; exact hd i
      have c0 := hB.cell (u32V_get c i (by omega))
      have f0 := hB.frozen i
      obtain ⟨s, y, z, e1, e2, e3, hz, hs, hy1, hz1⟩ := carry_nums (c.getD i 0) v hci hv
      have hst := hC.step hlt
      rw [← hy1, ← hz1] at hst
      have hB2 := hB.setCell_same i (.int .u32 (y : Nat))
      rw [u32V_put] at hB2
      generalize c.getD i 0 = x at *
      have HST := hide hst
      have HB2 := hide hB2
      have HR := hide (hR.setCell_other ⟨w.heap.size, i, none⟩ (.int .u32 (y : Nat)) (by first | (simp; done) | (simp; omega)))
      have HBE := hide (hbe.setCell (p := ⟨w.heap.size, i, none⟩) (Nat.le_refl _) (.int .u32 (y : Nat)))
      have ji : (i : Int) < 17 := by omega
      clear hst hB2 hy1 hz1 hC hcl hd hci hB hR hbe hl
      go_wp2
      go_roundw
      case rel => exact ⟨i + 1, z, _, by omega, by go_num, rfl, hz, HST.out, HB2.out, HR.out, HBE.out⟩
      case measure => simp [intOf]; omega
    · obtain rfl : i = 16 := by omega
      have hci : c.getD 16 0 < 4278190080 := by rw [hC.2.2.2 16 (Nat.le_refl _)]; exact hd 16
      have c0 := hB.cell (u32V_get c 16 (by omega))
      have f0 := hB.frozen 16
      obtain ⟨h1, h2⟩ := hC.done
      obtain ⟨s, hs⟩ : ∃ s : Nat, s = c.getD 16 0 + v := ⟨_, rfl⟩
      have e1 : ((c.getD 16 0 : Nat) : Int) + (v : Int) = (s : Int) := by omega
      have e2 : (s : Int) % 4294967296 = (s : Int) := by omega
      rw [← hs] at h1 h2
      have hB2 := hB.setCell_same 16 (.int .u32 (s : Nat))
      rw [u32V_put] at hB2
      generalize c.getD 16 0 = x at *
      generalize c.set 16 s = c2 at *
      have HB2 := hide hB2
      have HR := hide (hR.setCell_other ⟨w.heap.size, 16, none⟩ (.int .u32 (s : Nat)) (by first | (simp; done) | (simp; omega)))
      have HBE := hide (hbe.setCell (p := ⟨w.heap.size, 16, none⟩) (Nat.le_refl _) (.int .u32 (s : Nat)))
      have HL := hide (L17 h1.1)
      have H12 := hide (And.intro h1 h2)
      clear h1 h2 hC hcl hd hci hB hR hbe hl hB2 hs hlt hi hv
      go_wp2_with (with_reducible refine wpList_stop (.load 138 (.tmp 1)) rfl ?_)
      refine wpList_letterW (fun w' => Blk w' (w.heap.size) 138 (u32V c2) ∧ Blk w' (w.heap.size + 1) 138 (u32V (zeros32 17)) ∧ Below w.heap.size w w') ⟨HB2.out, HR.out, HBE.out⟩ ?_
      rintro w1 ⟨hB, hR, hbe⟩
      go_wp2_with (first | ((with_reducible refine wpList_at (.load 138 (.tmp 1)) rfl ?_); refine wpList_load_row rfl 138 (.tmp 1) rfl (w.heap.size) rfl 17 62 Tryd.underlying138 info17 (u32V c2) 138 hB HL.out ?_) | ((with_reducible refine wpList_at (.store 138 (.tmp 2) (.tmp 26)) rfl ?_); refine wpList_store_row rfl 138 (.tmp 2) (.tmp 26) rfl (w.heap.size + 1) rfl 17 info17 (u32V c2) rfl HL.out (u32V_one _) (u32V (zeros32 17)) 138 hR LZ17 ?_; intro w9 hB9 hG9))
      exact ret_rowB Tryd.results109 (w.heap.size + 1) rfl 17 62 Tryd.underlying138 info17 (u32V c2) 138 hB9 HL.out rfl ⟨⟨_, rfl, H12.out⟩, hbe.trans (RowKit.Below.of_grown hG9 (by omega) hbe.size)⟩

/-- The numbers of fold. -/
theorem fold_nums (x t : Nat) (hx : x < 256) (ht : t ≤ 2147483648) : ∃ y z p s : Nat, (t : Int) / 4 = (y : Int) ∧ bits .and .u32 (t : Int) 3 = (z : Int) ∧ (5 * (y : Int)) % 4294967296 = (p : Int) ∧ ((x : Int) + (p : Int)) % 4294967296 = (s : Int) ∧ y = t / 4 ∧ z = t % 4 ∧ s = x + 5 * (t / 4) := by
  refine ⟨t / 4, t % 4, 5 * (t / 4), x + 5 * (t / 4), by omega, ?_, by omega, by omega, rfl, rfl, rfl⟩
  have h := u32_and_nat t 3 (by omega) (by decide)
  rw [Pol.and3] at h
  exact h
theorem Pol.val_le (l : List Nat) (h : ∀ i, l.getD i 0 ≤ 1073741824) : ∀ i, Dig.val (l.take i) ≤ 1073741824 * 256 ^ i
  | 0 => by simp [Dig.val]
  | i + 1 => by
    have h1 := Pol.val_le l h i
    have h2 := Nat.mul_le_mul_left (256 ^ i) (h i)
    rw [Dig.val_take, Nat.pow_succ]
    generalize 256 ^ i = p at *
    omega
theorem Pol.top_le {l c : List Nat} (hl : l.length = 17) (h : ∀ i, l.getD i 0 ≤ 1073741824) (hc : Pol.Car c) (hv : Dig.val c = Dig.val l) : c.getD 16 0 ≤ 2147483648 := by
  rw [hc.top, hv, Pol.val_top hl]
  have h1 := Pol.val_le l h 16
  have h2 := Nat.mul_le_mul_left (256 ^ 16) (h 16)
  refine Nat.le_of_lt_succ ((Nat.div_lt_iff_lt_mul (by decide)).2 ?_)
  have h3 : 1073741824 * 256 ^ 16 + 256 ^ 16 * 1073741824 < 2147483649 * 256 ^ 16 := by decide
  omega
theorem Pol.foldL_at {c : List Nat} (h : Pol.Car c) (ht : c.getD 16 0 ≤ 2147483648) (i : Nat) : (Pol.foldL c).getD i 0 < 4278190080 := by
  have h0 := h.2 0 (by decide)
  have hl := h.1
  unfold Pol.foldL
  rw [getD_set _ _ _ _ (by rw [List.length_set]; omega)]
  split
  · omega
  · rw [getD_set _ _ _ _ (by omega)]
    split
    · omega
    · rcases Nat.lt_or_ge i 16 with h1 | h1
      · have := h.2 i h1; omega
      · rw [List.getD_eq_getElem?_getD, List.getElem?_eq_none (by omega)]; decide

set_option maxRecDepth 100000 in
set_option maxHeartbeats 1600000 in
theorem fold_any (l : List Nat) (w : World) (hl : l.length = 17) (hd : ∀ i, l.getD i 0 ≤ 1073741824) :
    Calls Tryd.prog 110 #[.agg (u32V l).toArray] w fun e w' => (∃ c, e = .returned (.agg (u32V c).toArray) ∧ Pol.Fold c ∧ Dig.val c % Pol.P = Dig.val l % Pol.P) ∧ Below w.heap.size w w' := by
  have C1 := hide (fun w => carry_any l w hl (fun i => Nat.lt_of_le_of_lt (hd i) (by decide)))
  have HL := hide (L17 hl)
  have TOP := hide (fun c => Pol.top_le (c := c) hl hd)
  clear hl hd
  go_enter Tryd.func110, Tryd.ntmps110
  go_wp2_with (with_reducible refine wpList_stop (.load 138 (.tmp 1)) rfl ?_)
  refine wpList_letterW (fun w' => Blk w' (w.heap.size) 138 (u32V l) ∧ Blk w' (w.heap.size + 1) 138 (u32V (zeros32 17)) ∧ Below w.heap.size w w' ∧ w.heap.size + 1 < w'.heap.size) ⟨(Blk.new rfl rfl).alloc _, Blk.new (by simp) rfl, ((Below.refl _ _).alloc (Nat.le_refl _) _).alloc (by simp) _, by simp⟩ ?_
  rintro w0 ⟨hB0, hZ0, hb0, hs0⟩
  go_wp2_with ((with_reducible refine wpList_at (.load 138 (.tmp 1)) rfl ?_); refine wpList_load_row rfl 138 (.tmp 1) rfl (w.heap.size) rfl 17 62 Tryd.underlying138 info17 (u32V l) 138 hB0 HL.out ?_)
  refine (C1.out _).mono ?_
  rintro e w1 ⟨⟨c, rfl, hC, hv⟩, hb1⟩
  have hB1 := hB0.below hb1 (by omega)
  have hZ1 := hZ0.below hb1 (by omega)
  have hbe1 := hb0.trans (hb1.mono hb0.size)
  have hs1 := hb1.size
  have htop := TOP.out c hC hv
  have HCL := hide (L17 hC.1)
  have G0 := u32V_get c 0 (by rw [hC.1]; decide)
  have G16 := u32V_get c 16 (by rw [hC.1]; decide)
  obtain ⟨y, z, p, s, n1, n2, n3, n4, n5, n6, n7⟩ := fold_nums (c.getD 0 0) (c.getD 16 0) (hC.2 0 (by decide)) htop
  have hfl : Pol.foldL c = (c.set 16 z).set 0 s := by rw [n6, n7]; rfl
  have C2 := hide (fun w => carry_any (Pol.foldL c) w ((Pol.foldL_len c).trans hC.1) (Pol.foldL_at hC htop))
  have V2 := hide (And.intro (Pol.foldL_lt hC (Nat.lt_of_le_of_lt htop (by decide))) ((Pol.foldL_mod hC.1).trans (by rw [hv])))
  have HFL := hide hfl
  have HF := hide (L17 ((Pol.foldL_len c).trans hC.1))
  generalize Pol.foldL c = fl at *
  generalize c.getD 0 0 = x at *
  generalize c.getD 16 0 = t at *
  clear hC hv htop hfl C1 TOP n5 n6 n7
  go_wp2_with (first | ((with_reducible refine wpList_at (.store 138 (.tmp 1) (.tmp 5)) rfl ?_); refine wpList_store_row rfl 138 (.tmp 1) (.tmp 5) rfl (w.heap.size) rfl 17 info17 (u32V c) rfl HCL.out (u32V_one _) (u32V l) 138 hB1 HL.out ?_; intro w2 hB2 hG2) | (with_reducible refine wpList_stop (.indexAddr 138 (.tmp 1) (.const (.int .i64 16))) rfl ?_))
  refine wpList_letterW (fun w' => Blk w' (w.heap.size) 138 (u32V c) ∧ Blk w' (w.heap.size + 1) 138 (u32V (zeros32 17)) ∧ Below w.heap.size w w' ∧ w.heap.size + 1 < w'.heap.size) ⟨hB2, hZ1.grown hG2 (by first | (simp; done) | (simp; omega)), hbe1.trans (RowKit.Below.of_grown hG2 (Nat.le_refl _) (by omega)), by have := hG2.size; omega⟩ ?_
  rintro w3 ⟨hB3, hZ3, hb3, hs3⟩
  clear hB0 hZ0 hb0 hs0 hB1 hZ1 hbe1 hs1 hb1 hB2 hG2
  have c16 := hB3.cell G16
  have c0 := hB3.cell G0
  have f := hB3.frozen
  have hB4 := hB3.setCell_same 16 (.int .u32 (z : Nat))
  rw [u32V_put] at hB4
  have hB5 := hB4.setCell_same 0 (.int .u32 (s : Nat))
  rw [u32V_put, ← HFL.out] at hB5
  have f4 := hB4.frozen
  have HB5 := hide hB5
  have HZ5 := hide ((hZ3.setCell_other ⟨w.heap.size, 16, none⟩ (.int .u32 (z : Nat)) (by first | (simp; done) | (simp; omega))).setCell_other ⟨w.heap.size, 0, none⟩ (.int .u32 (s : Nat)) (by first | (simp; done) | (simp; omega)))
  have HBE5 := hide ((hb3.setCell (p := ⟨w.heap.size, 16, none⟩) (Nat.le_refl _) (.int .u32 (z : Nat))).setCell (p := ⟨w.heap.size, 0, none⟩) (Nat.le_refl _) (.int .u32 (s : Nat)))
  clear hB5 hB4 hZ3 hb3
  go_wp2_with (with_reducible refine wpList_stop (.load 138 (.tmp 1)) rfl ?_)
  refine wpList_letterW (fun w' => Blk w' (w.heap.size) 138 (u32V fl) ∧ Blk w' (w.heap.size + 1) 138 (u32V (zeros32 17)) ∧ Below w.heap.size w w' ∧ w.heap.size + 1 < w'.heap.size) ⟨HB5.out, HZ5.out, HBE5.out, by simp [World.setCell]; omega⟩ ?_
  rintro w6 ⟨hB6, hZ6, hb6, hs6⟩
  clear HB5 HZ5 HBE5 c16 c0 f f4 hB3 hs3
  go_wp2_with ((with_reducible refine wpList_at (.load 138 (.tmp 1)) rfl ?_); refine wpList_load_row rfl 138 (.tmp 1) rfl (w.heap.size) rfl 17 62 Tryd.underlying138 info17 (u32V fl) 138 hB6 HF.out ?_)
  refine (C2.out _).mono ?_
  rintro e w7 ⟨⟨c2, rfl, hC2, hv2⟩, hb7⟩
  have hZ7 := hZ6.below hb7 (by omega)
  have hbe7 := hb6.trans (hb7.mono hb6.size)
  go_wp2_with ((with_reducible refine wpList_at (.store 138 (.tmp 2) (.tmp 20)) rfl ?_); refine wpList_store_row rfl 138 (.tmp 2) (.tmp 20) rfl (w.heap.size + 1) rfl 17 info17 (u32V c2) rfl (L17 hC2.1) (u32V_one _) (u32V (zeros32 17)) 138 hZ7 LZ17 ?_; intro w9 hB9 hG9)
  exact ret_rowB Tryd.results110 (w.heap.size + 1) rfl 17 62 Tryd.underlying138 info17 (u32V c2) 138 hB9 (L17 hC2.1) rfl ⟨⟨_, rfl, ⟨hC2, by rw [hv2]; exact V2.out.1⟩, by rw [hv2]; exact V2.out.2⟩, hbe7.trans (RowKit.Below.of_grown hG9 (by omega) hbe7.size)⟩

set_option maxRecDepth 100000 in
set_option maxHeartbeats 1600000 in
theorem leastOf_any (l : List Nat) (w : World) (h : Pol.Fold l) :
    Calls Tryd.prog 104 #[.agg (u32V l).toArray] w fun e w' => (∃ c, e = .returned (.agg (u32V c).toArray) ∧ Pol.Car c ∧ Dig.val c = Dig.val l % Pol.P) ∧ Below w.heap.size w w' := by
  have hl := h.1.1
  have h0 := h.at 0
  obtain ⟨s, hs⟩ : ∃ s : Nat, s = l.getD 0 0 + 5 := ⟨_, rfl⟩
  have n1 : (((l.getD 0 0 : Nat) : Int) + 5) % 4294967296 = (s : Int) := by omega
  have hml : (l.set 0 s).length = 17 := by simpa using hl
  have hmv : Dig.val (l.set 0 s) = Dig.val l + 5 := by
    have h1 := Dig.val_put l 0 s (by omega)
    rw [Nat.pow_zero, Nat.one_mul, Nat.one_mul, hs] at h1
    rw [hs]
    omega
  have hmd : ∀ i, (l.set 0 s).getD i 0 < 4278190080 := fun i => by
    rw [getD_set _ _ _ _ (by omega)]
    split
    · omega
    · have := h.at i; omega
  have C1 := hide (fun w => carry_any (l.set 0 s) w hml hmd)
  have HL := hide (L17 hl)
  have HM := hide (L17 hml)
  have G0 := u32V_get l 0 (by omega)
  have HV := hide hmv
  have HF := hide h
  clear hml hmv hmd hl h hs h0
  generalize l.getD 0 0 = x at *
  go_enter Tryd.func104, Tryd.ntmps104
  go_wp2_with (with_reducible refine wpList_stop (.load 138 (.tmp 1)) rfl ?_)
  refine wpList_letterW (fun w' => Blk w' (w.heap.size) 138 (u32V l) ∧ Blk w' (w.heap.size + 1) 138 (u32V (zeros32 17)) ∧ Below w.heap.size w w' ∧ w'.heap.size = w.heap.size + 1 + 1) ⟨(Blk.new rfl rfl).alloc _, Blk.new (by simp) rfl, ((Below.refl _ _).alloc (Nat.le_refl _) _).alloc (by simp) _, by simp⟩ ?_
  rintro w0 ⟨hB0, hZ0, hb0, hs0⟩
  go_wp2_with (first | ((with_reducible refine wpList_at (.load 138 (.tmp 1)) rfl ?_); refine wpList_load_row rfl 138 (.tmp 1) rfl (w.heap.size) rfl 17 62 Tryd.underlying138 info17 (u32V l) 138 hB0 HL.out ?_) | (with_reducible refine wpList_stop (.store 138 (.tmp 3) (.tmp 4)) rfl ?_))
  refine wpList_letterW (fun w' => Blk w' (w.heap.size) 138 (u32V l) ∧ Blk w' (w.heap.size + 1) 138 (u32V (zeros32 17)) ∧ Blk w' (w.heap.size + 1 + 1) 138 (u32V (zeros32 17)) ∧ Below w.heap.size w w' ∧ w.heap.size + 1 + 1 < w'.heap.size) ⟨hB0.alloc _, hZ0.alloc _, Blk.new hs0.symm rfl, hb0.alloc (by omega) _, by simp; omega⟩ ?_
  rintro w1 ⟨hB1, hZ1, hM1, hb1, hs1⟩
  clear hB0 hZ0 hb0 hs0
  go_wp2_with (first | ((with_reducible refine wpList_at (.store 138 (.tmp 3) (.tmp 4)) rfl ?_); refine wpList_store_row rfl 138 (.tmp 3) (.tmp 4) rfl (w.heap.size + 1 + 1) rfl 17 info17 (u32V l) rfl HL.out (u32V_one _) (u32V (zeros32 17)) 138 hM1 LZ17 ?_; intro w2 hM2 hG2) | (with_reducible refine wpList_stop (.indexAddr 138 (.tmp 3) (.const (.int .i64 0))) rfl ?_))
  refine wpList_letterW (fun w' => Blk w' (w.heap.size) 138 (u32V l) ∧ Blk w' (w.heap.size + 1) 138 (u32V (zeros32 17)) ∧ Blk w' (w.heap.size + 1 + 1) 138 (u32V l) ∧ Below w.heap.size w w' ∧ w.heap.size + 1 + 1 < w'.heap.size) ⟨hB1.grown hG2 (by first | (simp; done) | (simp; omega)), hZ1.grown hG2 (by first | (simp; done) | (simp; omega)), hM2, hb1.trans (RowKit.Below.of_grown hG2 (by omega) (by omega)), by have := hG2.size; omega⟩ ?_
  rintro w3 ⟨hB3, hZ3, hM3, hb3, hs3⟩
  clear hB1 hZ1 hM1 hb1 hs1 hM2 hG2
  have c0 := hM3.cell G0
  have f := hM3.frozen 0
  have hM4 := hM3.setCell_same 0 (.int .u32 (s : Nat))
  rw [u32V_put] at hM4
  have HM4 := hide hM4
  have HB4 := hide (hB3.setCell_other ⟨w.heap.size + 1 + 1, 0, none⟩ (.int .u32 (s : Nat)) (by first | (simp; done) | (simp; omega)))
  have HZ4 := hide (hZ3.setCell_other ⟨w.heap.size + 1 + 1, 0, none⟩ (.int .u32 (s : Nat)) (by first | (simp; done) | (simp; omega)))
  have HBE4 := hide (hb3.setCell (p := ⟨w.heap.size + 1 + 1, 0, none⟩) (by simp; omega) (.int .u32 (s : Nat)))
  generalize l.set 0 s = m at *
  clear hM4 hB3 hZ3 hb3 hM3
  go_wp2_with (with_reducible refine wpList_stop (.load 138 (.tmp 3)) rfl ?_)
  refine wpList_letterW (fun w' => Blk w' (w.heap.size) 138 (u32V l) ∧ Blk w' (w.heap.size + 1) 138 (u32V (zeros32 17)) ∧ Blk w' (w.heap.size + 1 + 1) 138 (u32V m) ∧ Below w.heap.size w w' ∧ w.heap.size + 1 + 1 < w'.heap.size) ⟨HB4.out, HZ4.out, HM4.out, HBE4.out, by simp [World.setCell]; omega⟩ ?_
  rintro w5 ⟨hB5, hZ5, hM5, hb5, hs5⟩
  clear HB4 HZ4 HM4 HBE4 c0 f hs3
  go_wp2_with ((with_reducible refine wpList_at (.load 138 (.tmp 3)) rfl ?_); refine wpList_load_row rfl 138 (.tmp 3) rfl (w.heap.size + 1 + 1) rfl 17 62 Tryd.underlying138 info17 (u32V m) 138 hM5 HM.out ?_)
  refine (C1.out _).mono ?_
  rintro e w6 ⟨⟨c, rfl, hC, hv⟩, hb6⟩
  have hB6 := hB5.below hb6 (by omega)
  have hZ6 := hZ5.below hb6 (by omega)
  have hM6 := hM5.below hb6 (by omega)
  have hbe6 := hb5.trans (hb6.mono hb5.size)
  have hs6 : w.heap.size + 1 + 1 < w6.heap.size := Nat.lt_of_lt_of_le hs5 hb6.size
  have LT := hide (fun h => Pol.least_lt hC (hv.trans HV.out) h)
  have GE := hide (fun h => Pol.least_ge HF.out hC (hv.trans HV.out) h)
  have hcl := hC.1
  have HC := hide hC
  have G16 := u32V_get c 16 (by omega)
  have HCL := hide (L17 hcl)
  have ht : c.getD 16 0 < 4294967296 := by
    rw [hC.top, hv]
    refine (Nat.div_lt_iff_lt_mul (by decide)).2 (Nat.lt_of_le_of_lt (Nat.le_of_eq HV.out) ?_)
    have := HF.out.2
    have h2 : 2 * Pol.P + 5 < 4294967296 * 256 ^ 16 := by unfold Pol.P; decide
    omega
  clear hB5 hZ5 hM5 hb5 hs5 hb6 hC hv C1 hcl
  generalize hst : c.getD 16 0 = t at *
  have HST := hide hst
  clear hst
  go_wp2_with (first | ((with_reducible refine wpList_at (.store 138 (.tmp 3) (.tmp 10)) rfl ?_); refine wpList_store_row rfl 138 (.tmp 3) (.tmp 10) rfl (w.heap.size + 1 + 1) rfl 17 info17 (u32V c) rfl HCL.out (u32V_one _) (u32V m) 138 hM6 HM.out ?_; intro w7 hM7 hG7) | (with_reducible refine wpList_stop (.indexAddr 138 (.tmp 3) (.const (.int .i64 16))) rfl ?_))
  refine wpList_letterW (fun w' => Blk w' (w.heap.size) 138 (u32V l) ∧ Blk w' (w.heap.size + 1) 138 (u32V (zeros32 17)) ∧ Blk w' (w.heap.size + 1 + 1) 138 (u32V c) ∧ Below w.heap.size w w' ∧ w.heap.size + 1 + 1 < w'.heap.size) ⟨hB6.grown hG7 (by first | (simp; done) | (simp; omega)), hZ6.grown hG7 (by first | (simp; done) | (simp; omega)), hM7, hbe6.trans (RowKit.Below.of_grown hG7 (by omega) (by omega)), by have := hG7.size; omega⟩ ?_
  rintro w8 ⟨hB8, hZ8, hM8, hb8, hs8⟩
  clear hB6 hZ6 hM6 hbe6 hs6 hM7 hG7
  have c16 := hM8.cell G16
  by_cases h4 : t < 4
  · have j4 : (t : Int) < 4 := by omega
    have hfin := LT.out h4
    have HFIN := hide (And.intro HF.out.1 hfin)
    clear hfin LT GE
    go_wp2_with (first | ((with_reducible refine wpList_at (.load 138 (.tmp 1)) rfl ?_); refine wpList_load_row rfl 138 (.tmp 1) rfl (w.heap.size) rfl 17 62 Tryd.underlying138 info17 (u32V l) 138 hB8 HL.out ?_) | ((with_reducible refine wpList_at (.store 138 (.tmp 2) (.tmp 14)) rfl ?_); refine wpList_store_row rfl 138 (.tmp 2) (.tmp 14) rfl (w.heap.size + 1) rfl 17 info17 (u32V l) rfl HL.out (u32V_one _) (u32V (zeros32 17)) 138 hZ8 LZ17 ?_; intro w9 hB9 hG9))
    exact ret_rowB Tryd.results104 (w.heap.size + 1) rfl 17 62 Tryd.underlying138 info17 (u32V l) 138 hB9 HL.out rfl ⟨⟨_, rfl, HFIN.out⟩, hb8.trans (RowKit.Below.of_grown hG9 (by omega) hb8.size)⟩
  · obtain ⟨q, hq⟩ : ∃ q : Nat, q = t - 4 := ⟨_, rfl⟩
    have j4 : ¬ (t : Int) < 4 := by omega
    have n2 : ((t : Int) - 4) % 4294967296 = (q : Int) := by omega
    have n3 : (t : Int) - 4 = (q : Int) := by omega
    have hfin := GE.out h4
    rw [← hq] at hfin
    have f := hM8.frozen 16
    have hM9 := hM8.setCell_same 16 (.int .u32 (q : Nat))
    rw [u32V_put] at hM9
    have HQL := hide (L17 hfin.1.1)
    have HFIN := hide hfin
    have HM9 := hide hM9
    have HZ9 := hide (hZ8.setCell_other ⟨w.heap.size + 1 + 1, 16, none⟩ (.int .u32 (q : Nat)) (by first | (simp; done) | (simp; omega)))
    have HBE9 := hide (hb8.setCell (p := ⟨w.heap.size + 1 + 1, 16, none⟩) (by simp; omega) (.int .u32 (q : Nat)))
    generalize c.set 16 q = c2 at *
    clear hfin LT GE hM9 hq h4 hZ8 hb8 hB8
    go_wp2_with (with_reducible refine wpList_stop (.load 138 (.tmp 3)) rfl ?_)
    refine wpList_letterW (fun w' => Blk w' (w.heap.size + 1) 138 (u32V (zeros32 17)) ∧ Blk w' (w.heap.size + 1 + 1) 138 (u32V c2) ∧ Below w.heap.size w w') ⟨HZ9.out, HM9.out, HBE9.out⟩ ?_
    rintro wA ⟨hZA, hMA, hbA⟩
    go_wp2_with (first | ((with_reducible refine wpList_at (.load 138 (.tmp 3)) rfl ?_); refine wpList_load_row rfl 138 (.tmp 3) rfl (w.heap.size + 1 + 1) rfl 17 62 Tryd.underlying138 info17 (u32V c2) 138 hMA HQL.out ?_) | ((with_reducible refine wpList_at (.store 138 (.tmp 2) (.tmp 19)) rfl ?_); refine wpList_store_row rfl 138 (.tmp 2) (.tmp 19) rfl (w.heap.size + 1) rfl 17 info17 (u32V c2) rfl HQL.out (u32V_one _) (u32V (zeros32 17)) 138 hZA LZ17 ?_; intro wB hBB hGB))
    exact ret_rowB Tryd.results104 (w.heap.size + 1) rfl 17 62 Tryd.underlying138 info17 (u32V c2) 138 hBB HQL.out rfl ⟨⟨_, rfl, HFIN.out⟩, hbA.trans (RowKit.Below.of_grown hGB (by omega) hbA.size)⟩
end Go.Proofs.YtpogfcfgbnccjabDoor
namespace Go.Proofs.YtpogfcfgbnccjabDoor
open Go.RowKit


theorem times_nums1 (X x y : Nat) (hX : X ≤ 700000000) (hx : x < 512) (hy : y < 256) : ∃ Y : Nat, Y = X + x * y ∧ ((X : Int) + (x : Int) * (y : Int)) % 4294967296 = (Y : Int) ∧ (X : Int) + (x : Int) * (y : Int) = (Y : Int) ∧ (Y : Int) % 4294967296 = (Y : Int) := by
  have h1 : x * y ≤ 130305 := Nat.le_trans (Nat.mul_le_mul (show x ≤ 511 by omega) (show y ≤ 255 by omega)) (by decide)
  have h2 : ((x : Int) * (y : Int)) = ((x * y : Nat) : Int) := (Int.natCast_mul x y).symm
  rw [h2]
  generalize x * y = q at *
  exact ⟨X + q, rfl, by omega, by omega, by omega⟩
theorem times_nums2 (X x y : Nat) (hX : X ≤ 700000000) (hx : x < 512) (hy : y < 256) : ∃ Y p : Nat, Y = X + 320 * (x * y) ∧ (320 * (x : Int)) % 4294967296 = (p : Int) ∧ ((X : Int) + (p : Int) * (y : Int)) % 4294967296 = (Y : Int) ∧ (X : Int) + (p : Int) * (y : Int) = (Y : Int) ∧ (Y : Int) % 4294967296 = (Y : Int) := by
  have h1 : x * y ≤ 130305 := Nat.le_trans (Nat.mul_le_mul (show x ≤ 511 by omega) (show y ≤ 255 by omega)) (by decide)
  have h2 : ((320 * x : Nat) : Int) * (y : Int) = ((320 * (x * y) : Nat) : Int) := by rw [← Int.natCast_mul, Nat.mul_assoc]
  refine ⟨X + 320 * (x * y), 320 * x, rfl, by omega, ?_, ?_, by omega⟩
  · rw [h2]; omega
  · rw [h2]; omega
theorem conv_zero (a b : List Nat) (i : Nat) : Pol.conv a b i + 320 * Pol.wrapc a b i 0 = sm (i + 1) (fun j => a.getD j 0 * b.getD (i - j) 0) := by
  rw [show Pol.wrapc a b i 0 = 0 from rfl, Nat.mul_zero, Nat.add_zero]
  rfl
theorem wrapc_succ (a b : List Nat) (i q : Nat) : Pol.wrapc a b i (q + 1) = Pol.wrapc a b i q + a.getD (i + 1 + q) 0 * b.getD (16 - q) 0 := rfl
theorem conv_bound {c k i q : Nat} (h1 : c ≤ (i + 1) * 130305) (h2 : k ≤ q * 130305) (hi : i < 17) (hq : q ≤ 16) : c + 320 * k ≤ 700000000 := by omega
theorem wrap_nums (i j q : Nat) (hi : i < 17) (hj : j < 17) (h : j = i + 1 + q) : ∃ k s : Nat, k = 16 - q ∧ k < 17 ∧ IntKind.i64.wrap (17 + (i : Int)) = (s : Int) ∧ wrap64 (17 + (i : Int)) = (s : Int) ∧ IntKind.i64.wrap ((s : Int) - (j : Int)) = (k : Int) ∧ wrap64 ((s : Int) - (j : Int)) = (k : Int) := by
  refine ⟨16 - q, 17 + i, rfl, by omega, ?_, ?_, ?_, ?_⟩
  · exact (IntWalk.i64_in _ (by omega)).trans (by omega)
  · exact (IntWalk.wrap64_in _ (by omega)).trans (by omega)
  · exact (IntWalk.i64_in _ (by omega)).trans (by omega)
  · exact (IntWalk.wrap64_in _ (by omega)).trans (by omega)
theorem set_again (o : List Nat) (i x y : Nat) : (o.set i x).set i y = o.set i y := by simp

set_option maxRecDepth 100000 in
set_option maxHeartbeats 4000000 in
theorem times_any (a b : List Nat) (w : World) (ha : a.length = 17) (hb : b.length = 17) (hda : ∀ i, a.getD i 0 < 512) (hdb : ∀ i, b.getD i 0 < 256) :
    Calls Tryd.prog 108 #[.agg (u32V a).toArray, .agg (u32V b).toArray] w fun e w' => (∃ c, e = .returned (.agg (u32V c).toArray) ∧ Pol.Fold c ∧ Dig.val c % Pol.P = Dig.val a * Dig.val b % Pol.P) ∧ Below w.heap.size w w' := by
  have DA := hide hda
  have DB := hide hdb
  have CL := hide (fun i => Pol.conv_le a b i hda hdb)
  have WL := hide (fun i => Pol.wrapc_le a b i hda hdb)
  have MV := hide (fun l => Pol.mulD_val a b l (by omega) (by omega))
  have AG := hide (fun j (hj : j < 17) => u32V_get a j (by omega))
  have BG := hide (fun j (hj : j < 17) => u32V_get b j (by omega))
  clear hda hdb ha hb
  go_enter Tryd.func108, Tryd.ntmps108
  go_wp2
  go_loopw [6] (fun vi wr => ∃ (i : Nat) (o : List Nat), i ≤ 17 ∧ vi = .int .i64 (i : Nat) ∧ o.length = 17 ∧ (∀ j, o.getD j 0 = if j < i then Pol.mulD a b j else 0) ∧ Blk wr (w.heap.size) 138 (u32V a) ∧ Blk wr (w.heap.size + 1) 138 (u32V b) ∧ Blk wr (w.heap.size + 1 + 1) 138 (u32V (zeros32 17)) ∧ Blk wr (w.heap.size + 1 + 1 + 1) 138 (u32V o) ∧ Below w.heap.size w wr) (fun i _ => 17 - (intOf i).toNat)
  case atStart =>
    refine ⟨0, zeros32 17, by omega, rfl, zeros32_len 17, (fun j => ?_), (((Blk.new rfl rfl).alloc _).alloc _).alloc _, ((Blk.new (by simp) rfl).alloc _).alloc _, (Blk.new (by simp) rfl).alloc _, Blk.new (by simp) rfl, ((((Below.refl _ _).alloc (Nat.le_refl _) _).alloc (by simp) _).alloc (by simp; omega) _).alloc (by simp; omega) _⟩
    rw [if_neg (by omega), List.getD_eq_getElem?_getD, zeros32, List.getElem?_replicate]
    split <;> rfl
  case round =>
    obtain ⟨i, o, hi, rfl, hol, hO, hA, hB, hR, hW, hbe⟩ := hrel
    by_cases hlt : i < 17
    · have ji : (i : Int) < 17 := by omega
      have hoi : o.set i 0 = o := list_getD (by simp) fun j hj => by
        rw [getD_set _ _ _ _ (by omega)]
        split
        · rename_i h; subst h; rw [hO, if_neg (by omega)]
        · rfl
      have HO := hide hO
      have HOL := hide hol
      have HOI := hide hoi
      have HW0 := hide (show Blk wr (w.heap.size + 1 + 1 + 1) 138 (u32V (o.set i (0))) by rw [hoi]; exact hW)
      have HA0 := hide hA
      have HB0 := hide hB
      have HR0 := hide hR
      have HBE0 := hide hbe
      clear hO hoi hW hA hB hR hbe
      go_wp2
      go_loopw [7] (fun vj wr => ∃ j : Nat, j ≤ i + 1 ∧ vj = .int .i64 (j : Nat) ∧ Blk wr (w.heap.size) 138 (u32V a) ∧ Blk wr (w.heap.size + 1) 138 (u32V b) ∧ Blk wr (w.heap.size + 1 + 1) 138 (u32V (zeros32 17)) ∧ Blk wr (w.heap.size + 1 + 1 + 1) 138 (u32V (o.set i (sm j (fun j => a.getD j 0 * b.getD (i - j) 0)))) ∧ Below w.heap.size w wr) (fun j _ => i + 1 - (intOf j).toNat)
      case atStart => exact ⟨0, by omega, rfl, HA0.out, HB0.out, HR0.out, HW0.out, HBE0.out⟩
      case round =>
        clear HW0 HA0 HB0 HR0 HBE0
        obtain ⟨j, hj, rfl, hA, hB, hR, hW, hbe⟩ := hrel
        by_cases hlj : j ≤ i
        · obtain ⟨k, hk⟩ : ∃ k : Nat, k = i - j := ⟨_, rfl⟩
          have q1 : IntKind.i64.wrap ((i : Int) - (j : Int)) = (k : Int) := (IntWalk.i64_in _ (by omega)).trans (by omega)
          have q2 : wrap64 ((i : Int) - (j : Int)) = (k : Int) := (IntWalk.wrap64_in _ (by omega)).trans (by omega)
          have c0 := hW.cell (u32V_get (o.set i (sm j (fun j => a.getD j 0 * b.getD (i - j) 0))) i (by rw [List.length_set]; omega))
          rw [getD_set _ _ _ _ (by omega), if_pos rfl] at c0
          have c1 := hA.cell (AG.out j (by omega))
          have c2 := hB.cell (BG.out k (by omega))
          have f0 := hW.frozen i
          obtain ⟨Y, hY, n1, n2, n3⟩ := times_nums1 (sm j (fun j => a.getD j 0 * b.getD (i - j) 0)) (a.getD j 0) (b.getD k 0) (Nat.le_trans (CL.out i j) (by omega)) (DA.out j) (DB.out k)
          have hY2 : Y = sm (j + 1) (fun j => a.getD j 0 * b.getD (i - j) 0) := by rw [hY, hk]; rfl
          have hW2 := hW.setCell_same i (.int .u32 (Y : Nat))
          rw [u32V_put, set_again, hY2] at hW2
          rw [← hY2] at hW2
          have HW2 := hide hW2
          have HY2 := hide hY2
          have HA := hide (hA.setCell_other ⟨w.heap.size + 1 + 1 + 1, i, none⟩ (.int .u32 (Y : Nat)) (by first | (simp; done) | (simp; omega)))
          have HB := hide (hB.setCell_other ⟨w.heap.size + 1 + 1 + 1, i, none⟩ (.int .u32 (Y : Nat)) (by first | (simp; done) | (simp; omega)))
          have HR := hide (hR.setCell_other ⟨w.heap.size + 1 + 1 + 1, i, none⟩ (.int .u32 (Y : Nat)) (by first | (simp; done) | (simp; omega)))
          have HBE := hide (hbe.setCell (p := ⟨w.heap.size + 1 + 1 + 1, i, none⟩) (by simp; omega) (.int .u32 (Y : Nat)))
          have jj : (j : Int) ≤ (i : Int) := by omega
          have j17 : (j : Int) < 17 := by omega
          have jk : (k : Int) < 17 := by omega
          generalize sm j (fun j => a.getD j 0 * b.getD (i - j) 0) = X at *
          generalize a.getD j 0 = x at *
          generalize b.getD k 0 = y at *
          clear hW2 hY hY2 hk hA hB hR hW hbe
          go_wp2
          go_region
          go_wp2
          go_roundw
          case rel => exact ⟨j + 1, by omega, by go_num, HA.out, HB.out, HR.out, by rw [← HY2.out]; exact HW2.out, HBE.out.drew⟩
          case measure => simp [intOf]; omega
        · obtain rfl : j = i + 1 := by omega
          have jj : ¬ ((i + 1 : Nat) : Int) ≤ (i : Int) := by omega
          have jj2 : ¬ (i : Int) + 1 ≤ (i : Int) := by omega
          have HW0 := hide (show Blk wr (w.heap.size + 1 + 1 + 1) 138 (u32V (o.set i (Pol.conv a b i + 320 * Pol.wrapc a b i 0))) by rw [conv_zero]; exact hW)
          have HA0 := hide hA
          have HB0 := hide hB
          have HR0 := hide hR
          have HBE0 := hide hbe
          clear hW hA hB hR hbe
          go_wp2
          go_loopw [8] (fun vj wr => ∃ q j : Nat, j = i + 1 + q ∧ q ≤ 16 - i ∧ vj = .int .i64 (j : Nat) ∧ Blk wr (w.heap.size) 138 (u32V a) ∧ Blk wr (w.heap.size + 1) 138 (u32V b) ∧ Blk wr (w.heap.size + 1 + 1) 138 (u32V (zeros32 17)) ∧ Blk wr (w.heap.size + 1 + 1 + 1) 138 (u32V (o.set i (Pol.conv a b i + 320 * Pol.wrapc a b i q))) ∧ Below w.heap.size w wr) (fun j _ => 17 - (intOf j).toNat)
          case atStart => exact ⟨0, i + 1, by omega, by omega, by go_num, HA0.out, HB0.out, HR0.out, HW0.out, HBE0.out⟩
          case round =>
            clear HW0 HA0 HB0 HR0 HBE0 jj jj2 hj hlj
            obtain ⟨q, j, hjq, hq, rfl, hA, hB, hR, hW, hbe⟩ := hrel
            by_cases hlj : j < 17
            · obtain ⟨k, s, hk, hk17, q0, q3, q1, q2⟩ := wrap_nums i j q hlt hlj hjq
              have c0 := hW.cell (u32V_get (o.set i (Pol.conv a b i + 320 * Pol.wrapc a b i q)) i (by rw [List.length_set]; omega))
              rw [getD_set _ _ _ _ (by omega), if_pos rfl] at c0
              have c1 := hA.cell (AG.out j hlj)
              have c2 := hB.cell (BG.out k hk17)
              have f0 := hW.frozen i
              have hbd : Pol.conv a b i + 320 * Pol.wrapc a b i q ≤ 700000000 := by
                exact conv_bound (CL.out i (i + 1)) (WL.out i q) hlt (Nat.le_trans hq (Nat.sub_le _ _))
              obtain ⟨Y, p0, hY, n0, n1, n2, n3⟩ := times_nums2 (Pol.conv a b i + 320 * Pol.wrapc a b i q) (a.getD j 0) (b.getD k 0) hbd (DA.out j) (DB.out k)
              have hY2 : Y = Pol.conv a b i + 320 * Pol.wrapc a b i (q + 1) := by
                rw [hY, hjq, hk, wrapc_succ, Nat.mul_add, Nat.add_assoc]
              have hW2 := hW.setCell_same i (.int .u32 (Y : Nat))
              rw [u32V_put, set_again] at hW2
              have HW2 := hide hW2
              have HY2 := hide hY2
              have HA := hide (hA.setCell_other ⟨w.heap.size + 1 + 1 + 1, i, none⟩ (.int .u32 (Y : Nat)) (by first | (simp; done) | (simp; omega)))
              have HB := hide (hB.setCell_other ⟨w.heap.size + 1 + 1 + 1, i, none⟩ (.int .u32 (Y : Nat)) (by first | (simp; done) | (simp; omega)))
              have HR := hide (hR.setCell_other ⟨w.heap.size + 1 + 1 + 1, i, none⟩ (.int .u32 (Y : Nat)) (by first | (simp; done) | (simp; omega)))
              have HBE := hide (hbe.setCell (p := ⟨w.heap.size + 1 + 1 + 1, i, none⟩) (by simp; omega) (.int .u32 (Y : Nat)))
              have j17 : (j : Int) < 17 := by omega
              have jk : (k : Int) < 17 := by omega
              have HJQ := hide hjq
              generalize Pol.conv a b i + 320 * Pol.wrapc a b i q = X at *
              generalize a.getD j 0 = x at *
              generalize b.getD k 0 = y at *
              clear hW2 hY hY2 hk hA hB hR hW hbe hbd hjq
              go_wp2
              go_region
              go_wp2
              go_roundw
              case rel => exact ⟨q + 1, j + 1, by have := HJQ.out; omega, by have := HJQ.out; omega, by go_num, HA.out, HB.out, HR.out, by rw [← HY2.out]; exact HW2.out, HBE.out.drew⟩
              case measure => simp [intOf]; omega
            · obtain rfl : q = 16 - i := by omega
              have hO2 : ∀ p, (o.set i (Pol.mulD a b i)).getD p 0 = if p < i + 1 then Pol.mulD a b p else 0 := fun p => by
                rw [getD_set _ _ _ _ (by have := HOL.out; omega), HO.out p]
                by_cases he : p = i
                · subst he; rw [if_pos rfl, if_pos (by omega)]
                · rw [if_neg he]
                  by_cases h1 : p < i
                  · rw [if_pos h1, if_pos (by omega)]
                  · rw [if_neg h1, if_neg (by omega)]
              have HO2 := hide hO2
              have HL2 := hide (show (o.set i (Pol.mulD a b i)).length = 17 by have := HOL.out; simpa using this)
              have HW2 := hide (show Blk wr (w.heap.size + 1 + 1 + 1) 138 (u32V (o.set i (Pol.mulD a b i))) from hW)
              generalize o.set i (Pol.mulD a b i) = o2 at *
              have HA := hide hA
              have HB := hide hB
              have HR := hide hR
              have HBE := hide hbe
              have j17 : ¬ (j : Int) < 17 := by omega
              clear hO2 hA hB hR hW hbe hjq hq
              go_wp2
              go_roundw
              case rel => exact ⟨i + 1, o2, by omega, by go_num, HL2.out, HO2.out, HA.out, HB.out, HR.out, HW2.out, HBE.out⟩
              case measure => simp [intOf]; omega
    · obtain rfl : i = 17 := by omega
      have hv := MV.out o hol (fun j hj => by rw [hO, if_pos hj])
      have hd : ∀ j, o.getD j 0 ≤ 1073741824 := fun j => by
        rw [hO]
        split
        · exact Nat.le_trans (conv_bound (CL.out j (j + 1)) (WL.out j (16 - j)) (by assumption) (by omega)) (by decide)
        · decide
      have C1 := hide (fun w => fold_any o w hol hd)
      rw [hv] at C1
      have HCL := hide (L17 hol)
      clear hO hv hd CL WL MV AG BG DA DB
      go_wp2_with ((with_reducible refine wpList_at (.load 138 (.tmp 5)) rfl ?_); refine wpList_load_row rfl 138 (.tmp 5) rfl (w.heap.size + 1 + 1 + 1) rfl 17 62 Tryd.underlying138 info17 (u32V o) 138 hW HCL.out ?_)
      refine (C1.out _).mono ?_
      rintro e w7 ⟨⟨c2, rfl, hC2, hv2⟩, hb7⟩
      have hZ7 := hR.below hb7 hR.lt
      have hbe7 := hbe.trans (hb7.mono hbe.size)
      go_wp2_with ((with_reducible refine wpList_at (.store 138 (.tmp 4) (.tmp 55)) rfl ?_); refine wpList_store_row rfl 138 (.tmp 4) (.tmp 55) rfl (w.heap.size + 1 + 1) rfl 17 info17 (u32V c2) rfl (L17 hC2.1.1) (u32V_one _) (u32V (zeros32 17)) 138 hZ7 LZ17 ?_; intro w9 hB9 hG9)
      exact ret_rowB Tryd.results108 (w.heap.size + 1 + 1) rfl 17 62 Tryd.underlying138 info17 (u32V c2) 138 hB9 (L17 hC2.1.1) rfl ⟨⟨_, rfl, hC2, hv2⟩, hbe7.trans (RowKit.Below.of_grown hG9 (by omega) hbe7.size)⟩
end Go.Proofs.YtpogfcfgbnccjabDoor
namespace Go.Proofs.YtpogfcfgbnccjabDoor
open Go.RowKit

theorem take_digit (s : ByteArray) (i : Nat) (h : i < s.size) : digitsOf (s.data.toList.take (i + 1)) = digitsOf (s.data.toList.take i) ++ [s[i].toNat] := by
  rw [List.take_succ_eq_append_getElem (by rw [text_len]; exact h), digitsOf, digitsOf, List.map_append, Array.getElem_toList]
  rfl
theorem take_digits_len (s : ByteArray) (i : Nat) (h : i ≤ s.size) : (digitsOf (s.data.toList.take i)).length = i := by
  rw [digitsOf_len, List.length_take, text_len]; omega

set_option maxRecDepth 100000 in
set_option maxHeartbeats 1600000 in
theorem numberOf_any (s : ByteArray) (w : World) (hs : s.size = 16) :
    Calls Tryd.prog 101 #[.string s] w fun e w' => e = .returned (.agg (u32V (digitsOf s.data.toList ++ [0])).toArray) ∧ Below w.heap.size w w' := by
  have hall : digitsOf (s.data.toList.take 16) ++ zeros32 1 = digitsOf s.data.toList ++ [0] := by rw [List.take_of_length_le (by rw [text_len]; omega)]; rfl
  have hlen : (digitsOf (s.data.toList.take 16) ++ zeros32 1).length = 17 := by rw [List.length_append, take_digits_len s 16 (by omega)]; rfl
  have HA := hide hall
  have HL := hide (L17 hlen)
  clear hall hlen
  go_enter Tryd.func101, Tryd.ntmps101
  go_wp2
  go_loopw [4] (fun vi wr => ∃ i : Nat, i ≤ 16 ∧ vi = .int .i64 (i : Nat) ∧ Blk wr (w.heap.size) 138 (u32V (zeros32 17)) ∧ Blk wr (w.heap.size + 1) 138 (u32V (digitsOf (s.data.toList.take i) ++ zeros32 (17 - i))) ∧ Below w.heap.size w wr) (fun i _ => 16 - (intOf i).toNat)
  case atStart => exact ⟨0, by omega, rfl, (Blk.new rfl rfl).alloc _, Blk.new (by simp) rfl, ((Below.refl _ _).alloc (Nat.le_refl _) _).alloc (by simp) _⟩
  case round =>
    obtain ⟨i, hi, rfl, hR, hB, hbe⟩ := hrel
    by_cases hlt : i < 16
    · have i1 : i < s.size := by omega
      have hB2 := hB.setCell_same i (.int .u32 ((s[i].toNat : Nat) : Int))
      rw [u32V_set _ _ _ _ (take_digits_len s i (by omega)) (by omega), ← take_digit s i i1, show 17 - i - 1 = 17 - (i + 1) by omega] at hB2
      have c0 := hB.cell (u32V_new (digitsOf (s.data.toList.take i)) (17 - i) i (take_digits_len s i (by omega)) (by omega))
      have f0 := hB.frozen i
      have hx := UInt8.toNat_lt s[i]
      have HB2 := hide hB2
      have HR := hide (hR.setCell_other ⟨w.heap.size + 1, i, none⟩ (.int .u32 ((s[i].toNat : Nat) : Int)) (by first | (simp; done) | (simp; omega)))
      have HBE := hide (hbe.setCell (p := ⟨w.heap.size + 1, i, none⟩) (by simp) (.int .u32 ((s[i].toNat : Nat) : Int)))
      have e0 : ((s[i].toNat : Nat) : Int) % 4294967296 = ((s[i].toNat : Nat) : Int) := by omega
      clear hx
      have js : (i : Int) < (s.size : Int) := by omega
      have j16 : (i : Int) < 16 := by omega
      have j17 : (i : Int) < 17 := by omega
      clear hB2 hB hR hbe hs
      go_wp2
      go_roundw
      case rel => exact ⟨i + 1, by omega, by go_num, HR.out, HB2.out, HBE.out⟩
      case measure => simp [intOf]; omega
    · obtain rfl : i = 16 := by omega
      have js : ¬ (16 : Int) < (s.size : Int) := by omega
      have HB := hide hB
      have HR := hide hR
      have HBE := hide hbe
      clear hB hR hbe
      go_wp2_with (first | ((with_reducible refine wpList_at (.load 138 (.tmp 3)) rfl ?_); refine wpList_load_row rfl 138 (.tmp 3) rfl (w.heap.size + 1) rfl 17 62 Tryd.underlying138 info17 (u32V (digitsOf (s.data.toList.take 16) ++ zeros32 1)) 138 HB.out HL.out ?_) | ((with_reducible refine wpList_at (.store 138 (.tmp 2) (.tmp 21)) rfl ?_); refine wpList_store_row rfl 138 (.tmp 2) (.tmp 21) rfl (w.heap.size) rfl 17 info17 (u32V (digitsOf (s.data.toList.take 16) ++ zeros32 1)) rfl HL.out (u32V_one _) (u32V (zeros32 17)) 138 HR.out LZ17 ?_; intro w9 hB9 hG9))
      exact ret_rowB Tryd.results101 (w.heap.size) rfl 17 62 Tryd.underlying138 info17 (u32V (digitsOf (s.data.toList.take 16) ++ zeros32 1)) 138 hB9 HL.out rfl ⟨by rw [← HA.out], HBE.out.trans (RowKit.Below.of_grown hG9 (Nat.le_refl _) HBE.out.size)⟩

theorem clamp_nums (x : Nat) (h : x < 256) : bits .and .u32 (x : Int) 15 = ((x % 16 : Nat) : Int) ∧ bits .and .u32 (x : Int) 252 = ((x - x % 4 : Nat) : Int) := by
  have h1 := u32_and_nat x 15 (by omega) (by decide)
  have h2 := u32_and_nat x 252 (by omega) (by decide)
  rw [Pol.and15] at h1
  rw [Pol.and252 x h] at h2
  exact ⟨h1, h2⟩
theorem cat0_lt {l : List Nat} (h : Dig.Ok l) (i : Nat) : (l ++ [0]).getD i 0 < 256 := by
  rw [Pol.cat0_getD]; exact h.at i

set_option maxRecDepth 100000 in
set_option maxHeartbeats 1600000 in
theorem clamp_any (l : List Nat) (w : World) (hl : l.length = 16) (hd : Dig.Ok l) :
    Calls Tryd.prog 102 #[.agg (u32V (l ++ [0])).toArray] w fun e w' => e = .returned (.agg (u32V (Pol.clL l 16 ++ [0])).toArray) ∧ Below w.heap.size w w' := by
  have hl17 : (l ++ [0]).length = 17 := by simp [hl]
  have hLT := cat0_lt hd
  have DONE := hide (fun c i => Pol.Cl2.done (c := c) (i := i) hl)
  have h16 : (l ++ [0]).getD 16 0 = 0 := by rw [Pol.cat0_getD, List.getD_eq_getElem?_getD, List.getElem?_eq_none (by omega)]; rfl
  generalize l ++ [0] = d at *
  go_enter Tryd.func102, Tryd.ntmps102
  go_wp2
  go_loopw [3] (fun vi wr => ∃ (i : Nat) (c : List Nat), i ≤ 19 ∧ i % 4 = 3 ∧ vi = .int .i64 (i : Nat) ∧ Pol.Cl1 d c i ∧ Blk wr (w.heap.size) 138 (u32V c) ∧ Blk wr (w.heap.size + 1) 138 (u32V (zeros32 17)) ∧ Below w.heap.size w wr) (fun i _ => 19 - (intOf i).toNat)
  case atStart => exact ⟨3, d, by omega, rfl, rfl, Pol.Cl1.start d hl17, (Blk.new rfl rfl).alloc _, Blk.new (by simp) rfl, ((Below.refl _ _).alloc (Nat.le_refl _) _).alloc (by simp) _⟩
  case round =>
    obtain ⟨i, c, hi, hm, rfl, hC, hB, hR, hbe⟩ := hrel
    have hcl := hC.1
    by_cases hlt : i < 16
    · have c0 := hB.cell (u32V_get c i (by omega))
      rw [hC.at] at c0
      have f0 := hB.frozen i
      have n1 := (clamp_nums (d.getD i 0) (hLT i)).1
      have hst := hC.step hm hlt
      have hB2 := hB.setCell_same i (.int .u32 ((d.getD i 0 % 16 : Nat) : Int))
      rw [u32V_put] at hB2
      generalize d.getD i 0 % 16 = y at *
      generalize d.getD i 0 = x at *
      have HST := hide hst
      have HB2 := hide hB2
      have HR := hide (hR.setCell_other ⟨w.heap.size, i, none⟩ (.int .u32 (y : Nat)) (by first | (simp; done) | (simp; omega)))
      have HBE := hide (hbe.setCell (p := ⟨w.heap.size, i, none⟩) (Nat.le_refl _) (.int .u32 (y : Nat)))
      have ji : (i : Int) < 17 := by omega
      have jj : (i : Int) < 16 := by omega
      have HM := hide hm
      clear hst hB2 hC hcl hB hR hbe hl17 hLT h16 hm hd hl
      go_wp2
      go_roundw
      case rel => exact ⟨i + 4, _, by have := HM.out; omega, by have := HM.out; omega, by go_num, HST.out, HB2.out, HR.out, HBE.out⟩
      case measure => simp [intOf]; omega
    · have hC2 := hC.done (by omega)
      have ht : c.getD 16 0 = 0 := by rw [hC.2, if_neg (by omega), h16]
      have jj : ¬ (i : Int) < 16 := by omega
      have HC2 := hide hC2
      have HT := hide ht
      have HB := hide hB
      have HR := hide hR
      have HBE := hide hbe
      clear hC2 ht hB hR hbe hC hm
      go_wp2
      go_loopw [4] (fun vi wr => ∃ (i : Nat) (c : List Nat), i ≤ 16 ∧ i % 4 = 0 ∧ 4 ≤ i ∧ vi = .int .i64 (i : Nat) ∧ Pol.Cl2 d c i ∧ c.getD 16 0 = 0 ∧ Blk wr (w.heap.size) 138 (u32V c) ∧ Blk wr (w.heap.size + 1) 138 (u32V (zeros32 17)) ∧ Below w.heap.size w wr) (fun i _ => 16 - (intOf i).toNat)
      case atStart => exact ⟨4, c, by omega, rfl, by omega, rfl, HC2.out, HT.out, HB.out, HR.out, HBE.out⟩
      case round =>
        clear HC2 HT HB HR HBE hcl hlt hi jj
        obtain ⟨i, c, hi, hm, h4, rfl, hC, ht, hB, hR, hbe⟩ := hrel
        have hcl := hC.1
        by_cases hlt : i < 16
        · have c0 := hB.cell (u32V_get c i (by omega))
          rw [hC.at hm hlt] at c0
          have f0 := hB.frozen i
          have n1 := (clamp_nums (d.getD i 0) (hLT i)).2
          have hst := hC.step hm (by omega) hlt
          have ht2 : (c.set i (d.getD i 0 - d.getD i 0 % 4)).getD 16 0 = 0 := by rw [getD_set _ _ _ _ (by omega), if_neg (by omega)]; exact ht
          have hB2 := hB.setCell_same i (.int .u32 ((d.getD i 0 - d.getD i 0 % 4 : Nat) : Int))
          rw [u32V_put] at hB2
          generalize d.getD i 0 - d.getD i 0 % 4 = y at *
          generalize d.getD i 0 = x at *
          have HST := hide (And.intro hst ht2)
          have HB2 := hide hB2
          have HR := hide (hR.setCell_other ⟨w.heap.size, i, none⟩ (.int .u32 (y : Nat)) (by first | (simp; done) | (simp; omega)))
          have HBE := hide (hbe.setCell (p := ⟨w.heap.size, i, none⟩) (Nat.le_refl _) (.int .u32 (y : Nat)))
          have ji : (i : Int) < 17 := by omega
          have jj : (i : Int) < 16 := by omega
          have HM := hide (And.intro hm h4)
          clear hst ht2 hB2 hC hcl hB hR hbe hl17 hLT h16 hm hd hl ht h4
          go_wp2
          go_roundw
          case rel => exact ⟨i + 4, _, by have := HM.out; omega, by have := HM.out; omega, by omega, by go_num, HST.out.1, HST.out.2, HB2.out, HR.out, HBE.out⟩
          case measure => simp [intOf]; omega
        · have hfin := DONE.out c i hC (by omega) ht
          have HL := hide (L17 hcl)
          have jj : ¬ (i : Int) < 16 := by omega
          have HFIN := hide hfin
          clear hfin DONE ht hm
          go_wp2_with (first | ((with_reducible refine wpList_at (.load 138 (.tmp 1)) rfl ?_); refine wpList_load_row rfl 138 (.tmp 1) rfl (w.heap.size) rfl 17 62 Tryd.underlying138 info17 (u32V c) 138 hB HL.out ?_) | ((with_reducible refine wpList_at (.store 138 (.tmp 2) (.tmp 23)) rfl ?_); refine wpList_store_row rfl 138 (.tmp 2) (.tmp 23) rfl (w.heap.size + 1) rfl 17 info17 (u32V c) rfl HL.out (u32V_one _) (u32V (zeros32 17)) 138 hR LZ17 ?_; intro w9 hB9 hG9))
          exact ret_rowB Tryd.results102 (w.heap.size + 1) rfl 17 62 Tryd.underlying138 info17 (u32V c) 138 hB9 HL.out rfl ⟨by rw [← HFIN.out], hbe.trans (RowKit.Below.of_grown hG9 (by omega) hbe.size)⟩

set_option maxRecDepth 100000 in
set_option maxHeartbeats 1600000 in
theorem lowBytes_any (l : List Nat) (w : World) (h : Pol.Car l) :
    Calls Tryd.prog 106 #[.agg (u32V l).toArray] w fun e w' => e = .returned (.string ⟨(leB (Dig.val l) 16).toArray⟩) ∧ Below w.heap.size w w' := by
  have XS := hide (leB_succ (Dig.val l))
  have X0 := hide (show leB (Dig.val l) 0 = [] from rfl)
  have DG := hide (fun i hi => h.digit i hi)
  have HH := hide h
  have hl := h.1
  generalize leB (Dig.val l) = xl at *
  clear h
  go_enter Tryd.func106, Tryd.ntmps106
  go_wp2
  refine wp_letterW (fun w' => Blk w' w.heap.size 138 (u32V l) ∧ Blk w' (w.heap.size + 1) 5 [] ∧ Below w.heap.size w w' ∧ w.heap.size + 1 < w'.heap.size) ⟨(Blk.new rfl rfl).alloc _, Blk.new (by simp) rfl, ((Below.refl _ _).alloc (Nat.le_refl _) _).alloc (by simp) _, by simp⟩ ?_
  rintro wb ⟨hB, hE, hbw, hsw⟩
  have HB := hide hB
  have HBW := hide hbw
  have HE := hide hE
  clear hB hbw hE
  go_loopw [3, 4] (fun vo vi wr => ∃ i : Nat, i ≤ 16 ∧ vi = .int .i64 (i : Nat) ∧ Row wr (w.heap.size + 1) 5 1 vo i (u8L (xl i)) ∧ Below (w.heap.size + 1) wb wr) (fun _ i _ => 16 - (intOf i).toNat)
  case atStart => exact ⟨0, by omega, rfl, by rw [X0.out]; exact Row.zero (Nat.le_refl _) HE.out, Below.refl _ _⟩
  case round =>
    obtain ⟨i, hi, rfl, hrow, hbe⟩ := hrel
    have hsz : w.heap.size + 1 ≤ wr.heap.size := Nat.le_trans (Nat.le_of_lt hsw) hbe.size
    by_cases hlt : i < 16
    · have hx := HH.out.2 i hlt
      have hB2 := HB.out.below hbe (by omega)
      have c0 := hB2.cell (u32V_get l i (by omega))
      have hdg := DG.out i hlt
      generalize l.getD i 0 = x at *
      obtain ⟨y, hy⟩ : ∃ y : UInt8, y = UInt8.ofNat x := ⟨_, rfl⟩
      have e0 : (x : Int) % 256 = ((y.toNat : Nat) : Int) := by rw [hy, UInt8.toNat_ofNat']; omega
      have hx2 : xl (i + 1) = xl i ++ [y] := by rw [XS.out, ← hdg, hy]
      have HX2 := hide hx2
      have HROW := hide hrow
      have HBE := hide hbe
      have jj : (i : Int) < 16 := by omega
      have j17 : (i : Int) < 17 := by omega
      clear hx2 hdg hy hrow hbe hx hB2
      go_wp2_with (at_builtin; refine wpList_append_u8 rfl (.tmp 10) (.tmp 15) rfl (w.heap.size + 1) _ i _ rfl (HROW.out.alloc _) ⟨wr.heap.size, 0, none⟩ 1 1 [y] rfl rfl (one_news rfl (World.cell?_alloc_at _ _ _ _ rfl)) ?_ ?_ ?_; omega; (simp; omega); intro v1 w5 hr1 hg1 hat1)
      go_roundw
      case rel =>
        refine ⟨i + 1, by omega, by go_num, by rw [HX2.out]; exact hr1, ?_⟩
        exact Below.grown (HBE.out.alloc hsz _) hg1 (by simp; omega) (fun k hk => (HROW.out.lt k hk).1)
      case measure => simp [intOf]; omega
    · obtain rfl : i = 16 := by omega
      obtain ⟨ao, cap, rfl, hc1, hc2, hcv⟩ := Row.strAny hrow
      have HBE := hide (HBW.out.trans (hbe.mono (Nat.le_succ _)))
      clear hrow hbe hc1 hc2
      go_wp2
      go_ret
      exact ⟨rfl, HBE.out⟩
end Go.Proofs.YtpogfcfgbnccjabDoor
namespace Go.Proofs.YtpogfcfgbnccjabDoor
open Go.RowKit

set_option maxRecDepth 100000 in
set_option maxHeartbeats 1600000 in
theorem add_any (a b : List Nat) (w : World) (ha : a.length = 17) (hb : b.length = 17) (hda : ∀ i, a.getD i 0 < 1073741824) (hdb : ∀ i, b.getD i 0 < 1073741824) :
    Calls Tryd.prog 105 #[.agg (u32V a).toArray, .agg (u32V b).toArray] w fun e w' => (∃ c, e = .returned (.agg (u32V c).toArray) ∧ Pol.Car c ∧ Dig.val c = Dig.val a + Dig.val b) ∧ Below w.heap.size w w' := by
  have HBL := hide (L17 hb)
  go_enter Tryd.func105, Tryd.ntmps105
  go_wp2
  go_loopw [5] (fun vi wr => ∃ (i : Nat) (c : List Nat), i ≤ 17 ∧ vi = .int .i64 (i : Nat) ∧ c.length = 17 ∧ (∀ j, c.getD j 0 = if j < i then a.getD j 0 + b.getD j 0 else a.getD j 0) ∧ Blk wr (w.heap.size) 138 (u32V c) ∧ Blk wr (w.heap.size + 1) 138 (u32V b) ∧ Blk wr (w.heap.size + 1 + 1) 138 (u32V (zeros32 17)) ∧ Below w.heap.size w wr) (fun i _ => 17 - (intOf i).toNat)
  case atStart => exact ⟨0, a, by omega, rfl, ha, (fun j => by rw [if_neg (by omega)]), ((Blk.new rfl rfl).alloc _).alloc _, (Blk.new (by simp) rfl).alloc _, Blk.new (by simp) rfl, (((Below.refl _ _).alloc (Nat.le_refl _) _).alloc (by simp) _).alloc (by simp; omega) _⟩
  case round =>
    obtain ⟨i, c, hi, rfl, hcl, hC, hA, hB, hR, hbe⟩ := hrel
    by_cases hlt : i < 17
    · have c0 := hA.cell (u32V_get c i (by omega))
      have c1 := hB.cell (u32V_get b i (by omega))
      have hci : c.getD i 0 = a.getD i 0 := by rw [hC, if_neg (by omega)]
      rw [hci] at c0
      have f0 := hA.frozen i
      have x1 := hda i
      have x2 := hdb i
      obtain ⟨s, hs⟩ : ∃ s : Nat, s = a.getD i 0 + b.getD i 0 := ⟨_, rfl⟩
      have n1 : (((a.getD i 0 : Nat) : Int) + ((b.getD i 0 : Nat) : Int)) % 4294967296 = (s : Int) := by omega
      have hC2 : ∀ j, (c.set i s).getD j 0 = if j < i + 1 then a.getD j 0 + b.getD j 0 else a.getD j 0 := fun j => by
        rw [getD_set _ _ _ _ (by omega), hC j]
        by_cases he : j = i
        · subst he; rw [if_pos rfl, if_pos (by omega), hs]
        · rw [if_neg he]
          by_cases h1 : j < i
          · rw [if_pos h1, if_pos (by omega)]
          · rw [if_neg h1, if_neg (by omega)]
      have hB2 := hA.setCell_same i (.int .u32 (s : Nat))
      rw [u32V_put] at hB2
      have HC2 := hide hC2
      have HCL := hide (show (c.set i s).length = 17 by simpa using hcl)
      have HB2 := hide hB2
      have HBB := hide (hB.setCell_other ⟨w.heap.size, i, none⟩ (.int .u32 (s : Nat)) (by first | (simp; done) | (simp; omega)))
      have HR := hide (hR.setCell_other ⟨w.heap.size, i, none⟩ (.int .u32 (s : Nat)) (by first | (simp; done) | (simp; omega)))
      have HBE := hide (hbe.setCell (p := ⟨w.heap.size, i, none⟩) (Nat.le_refl _) (.int .u32 (s : Nat)))
      clear hC2 hC hci hs hB2 hR hbe hcl x1 x2
      generalize c.set i s = c2 at *
      generalize a.getD i 0 = x at *
      generalize b.getD i 0 = y at *
      have ji : (i : Int) < 17 := by omega
      clear hda hdb
      go_wp2
      go_region
      go_wp2
      go_roundw
      case rel => exact ⟨i + 1, c2, by omega, by go_num, HCL.out, HC2.out, HB2.out, HBB.out, HR.out, HBE.out.drew⟩
      case measure => simp [intOf]; omega
    · obtain rfl : i = 17 := by omega
      have hv := Pol.sum_val a b c (by omega) (by omega) hcl (fun j hj => by rw [hC, if_pos hj])
      have hd : ∀ j, c.getD j 0 < 4278190080 := fun j => by
        have := hda j
        have := hdb j
        rw [hC]
        split <;> omega
      have C1 := hide (fun w => carry_any c w hcl hd)
      rw [hv] at C1
      have HCL := hide (L17 hcl)
      clear hC hv hd hda hdb
      go_wp2_with ((with_reducible refine wpList_at (.load 138 (.tmp 2)) rfl ?_); refine wpList_load_row rfl 138 (.tmp 2) rfl (w.heap.size) rfl 17 62 Tryd.underlying138 info17 (u32V c) 138 hA HCL.out ?_)
      refine (C1.out _).mono ?_
      rintro e w7 ⟨⟨c2, rfl, hC2, hv2⟩, hb7⟩
      have hZ7 := hR.below hb7 hR.lt
      have hbe7 := hbe.trans (hb7.mono hbe.size)
      go_wp2_with ((with_reducible refine wpList_at (.store 138 (.tmp 4) (.tmp 19)) rfl ?_); refine wpList_store_row rfl 138 (.tmp 4) (.tmp 19) rfl (w.heap.size + 1 + 1) rfl 17 info17 (u32V c2) rfl (L17 hC2.1) (u32V_one _) (u32V (zeros32 17)) 138 hZ7 LZ17 ?_; intro w9 hB9 hG9)
      exact ret_rowB Tryd.results105 (w.heap.size + 1 + 1) rfl 17 62 Tryd.underlying138 info17 (u32V c2) 138 hB9 (L17 hC2.1) rfl ⟨⟨_, rfl, hC2, hv2⟩, hbe7.trans (RowKit.Below.of_grown hG9 (by omega) hbe7.size)⟩
end Go.Proofs.YtpogfcfgbnccjabDoor
namespace Go.Proofs.YtpogfcfgbnccjabDoor
open Go.RowKit

theorem World.grownBy.own {a w w' : World} {b : Nat} {row : Option Nat} (h : a.grownBy w (some b)) (k : w.grownBy w' row) (hr : ∀ x, row = some x → a.heap.size ≤ x) : a.grownBy w' (some b) :=
  ⟨k.os.trans h.os, k.tape.trans h.tape, k.output.trans h.output, Nat.le_trans h.size k.size, fun i hi hne => by
    rw [k.block i (Nat.lt_of_lt_of_le hi h.size) (fun e => absurd (hr i e.symm) (by omega))]
    exact h.block i hi hne⟩
theorem wp_letterA {P : Program} {c : Code} {Q : Exit → Act → World → Prop} {a : Act} {w : World} (h : ∀ A : Act, A = a → c.wp P Q A w) : c.wp P Q a w := h a rfl
theorem step_call {P : Program} {ops : Array Oper} {o : Oper} {a : Act} {w : World} {K : Act → World → Prop} {Q : Exit → Act → World → Prop} {E : Prop} (hg : o.guard = none) (f : FuncId) (xs : Array Operand) (ats : Array TypeId)
    (ho : o.op = .call { callee := .value (.func f), args := xs, argTypes := ats }) (us : Array Value) (hx : xs.map a.eval = us) (hc : ∀ args w, (callFunc f args).run P w = .ok (.enter f args) w)
    (h : Calls P f us w fun e w' => ∃ r, e = .returned r ∧ K (a.put o.dst r) w') : if Region.wanted o (yielded ops a.tmps) = true then Oper.wp P o a w K Q else E := by
  rw [if_pos (by simp [Region.wanted, hg])]
  have e : (execOp a.eval o).run P w = .ok (.enter f us) w := by
    unfold execOp
    simp [ho, resolve, invoke, hx, hc, Act.eval, Deferred.ofValue]
  unfold Oper.wp
  rw [e, Oper.upon_enter]
  exact h.mono (by rintro e w' ⟨r, rfl, hk⟩; exact hk)
end Go.Proofs.YtpogfcfgbnccjabDoor
namespace Go.Proofs.YtpogfcfgbnccjabDoor
open Go.RowKit

theorem tc_len {R S D : List Nat} {m : Nat} (hR : R.length = 17) (hS : S.length = 17) (hD : D.length = 17) : (tcells R S D m).length = 52 := by simp [tcells, u32V_len, hR, hS, hD]
theorem tc_r {R S D : List Nat} {m : Nat} (hR : R.length = 17) : ((tcells R S D m).drop 0).take 17 = u32V R := by
  have h : (u32V R).length = 17 := (u32V_len R).trans hR
  unfold tcells
  rw [List.drop_zero, List.append_assoc, List.append_assoc, List.take_left' h]
theorem tc_s {R S D : List Nat} {m : Nat} (hR : R.length = 17) (hS : S.length = 17) : ((tcells R S D m).drop 17).take 17 = u32V S := by
  have h : (u32V R).length = 17 := (u32V_len R).trans hR
  have h2 : (u32V S).length = 17 := (u32V_len S).trans hS
  unfold tcells
  rw [List.append_assoc, List.append_assoc, List.drop_left' h, List.take_left' h2]
theorem tc_d {R S D : List Nat} {m : Nat} (hR : R.length = 17) (hS : S.length = 17) (hD : D.length = 17) : ((tcells R S D m).drop 34).take 17 = u32V D := by
  have h : (u32V R ++ u32V S).length = 34 := by simp [u32V_len, hR, hS]
  have h2 : (u32V D).length = 17 := (u32V_len D).trans hD
  unfold tcells
  rw [List.append_assoc, List.drop_left' h, List.take_left' h2]
theorem tc_cell {R S D : List Nat} {m : Nat} (hR : R.length = 17) (hS : S.length = 17) (hD : D.length = 17) (i : Nat) (hi : i < 17) : (tcells R S D m)[34 + i]? = some (.int .u32 ((D.getD i 0 : Nat) : Int)) := by
  have h : (u32V R ++ u32V S).length = 34 := by simp [u32V_len, hR, hS]
  unfold tcells
  rw [List.append_assoc, List.getElem?_append_right (by rw [h]; omega), h, Nat.add_sub_cancel_left, List.getElem?_append_left (by rw [u32V_len, hD]; exact hi)]
  exact u32V_get D i (by omega)
theorem tc_count {R S D : List Nat} {m : Nat} (hR : R.length = 17) (hS : S.length = 17) (hD : D.length = 17) : (tcells R S D m)[51]? = some (.int .i64 ((m : Nat) : Int)) := by
  have h : (u32V R ++ u32V S ++ u32V D).length = 51 := by simp [u32V_len, hR, hS, hD]
  unfold tcells
  rw [List.getElem?_append_right (by rw [h]; exact Nat.le_refl _), h]
  rfl
theorem tc_put {R S D : List Nat} {m : Nat} (hR : R.length = 17) (hS : S.length = 17) (hD : D.length = 17) (i x : Nat) (hi : i < 17) : (tcells R S D m).set (34 + i) (.int .u32 ((x : Nat) : Int)) = tcells R S (D.set i x) m := by
  have h : (u32V R ++ u32V S).length = 34 := by simp [u32V_len, hR, hS]
  unfold tcells
  rw [List.append_assoc, List.set_append_right _ _ (by rw [h]; omega), h, Nat.add_sub_cancel_left, List.set_append_left _ _ (by rw [u32V_len, hD]; exact hi), u32V_put, ← List.append_assoc]
theorem tc_putc {R S D : List Nat} {m : Nat} (hR : R.length = 17) (hS : S.length = 17) (hD : D.length = 17) (k : Nat) : (tcells R S D m).set 51 (.int .i64 ((k : Nat) : Int)) = tcells R S D k := by
  have h : (u32V R ++ u32V S ++ u32V D).length = 51 := by simp [u32V_len, hR, hS, hD]
  unfold tcells
  rw [List.set_append_right _ _ (by rw [h]; exact Nat.le_refl _), h]
  rfl
theorem tc_over {R S D : List Nat} {m : Nat} (hR : R.length = 17) (hS : S.length = 17) (hD : D.length = 17) {E : List Nat} (hE : E.length = 17) : laidOver (tcells R S D m) 34 (u32V E) = tcells R S E m := by
  have h : (u32V R ++ u32V S).length = 34 := by simp [u32V_len, hR, hS]
  have h2 : (u32V R ++ u32V S ++ u32V D).length = 34 + (u32V E).length := by simp [u32V_len, hR, hS, hD, hE]
  unfold laidOver
  congr 1
  · congr 1
    unfold tcells
    rw [List.append_assoc, List.take_left' h]
  · unfold tcells
    rw [List.drop_left' h2]

set_option maxRecDepth 100000 in
set_option maxHeartbeats 1600000 in
theorem endPiece_any (b : Nat) (R S D : List Nat) (m : Nat) (w : World) (hR : R.length = 17) (hS : S.length = 17) (hD : D.length = 17) (hm : m < 17) (hRl : ∀ i, R.getD i 0 < 256) (hDl : ∀ i, D.getD i 0 < 511) (hb : Blk w b 142 (tcells R S D m)) :
    Calls Tryd.prog 103 #[.pointer (some ⟨b, 0, none⟩)] w fun e w' => e = .returned (.tuple #[]) ∧
      (∃ D', Pol.Fold D' ∧ Dig.val D' % Pol.P = Dig.val (D.set m (D.getD m 0 + 1)) * Dig.val R % Pol.P ∧ Blk w' b 142 (tcells R S D' 0)) ∧ w.grownBy w' (some b) := by
  have c51 := hb.cell (tc_count hR hS hD)
  have cm := hb.cell (tc_cell hR hS hD m hm)
  have hf := hb.frozen
  obtain ⟨E, hE⟩ : ∃ E, E = D.set m (D.getD m 0 + 1) := ⟨_, rfl⟩
  have hEL : E.length = 17 := by rw [hE]; simpa using hD
  have hEl : ∀ i, E.getD i 0 < 512 := fun i => by
    rw [hE, getD_set _ _ _ _ (by omega)]
    have := hDl i
    have := hDl m
    split <;> omega
  have hB1 := hb.setCell_same (34 + m) (.int .u32 ((D.getD m 0 + 1 : Nat) : Int))
  rw [tc_put hR hS hD m _ hm, ← hE] at hB1
  have hG1 := ((World.grownBy.refl w (some b)).setCell (34 + m) (.int .u32 ((D.getD m 0 + 1 : Nat) : Int))).drew
  obtain ⟨x, hx⟩ : ∃ x : Nat, x = D.getD m 0 + 1 := ⟨_, rfl⟩
  rw [← hx] at hB1 hG1
  have n1 : (((D.getD m 0 : Nat) : Int) + 1) % 4294967296 = (x : Int) := by have := hDl m; omega
  have TM := hide (fun w => times_any E R w hEL hR hEl hRl)
  rw [← hE]
  have HB1 := hide hB1
  have HG1 := hide hG1
  have m1 : (m : Int) < 17 := by omega
  clear hB1 hG1 hDl hRl hEl hE hx hb
  generalize D.getD m 0 = y at *
  have LE := hide hEL
  have LR := hide hR
  have LS := hide hS
  clear hEL hR hS hD
  go_enter Tryd.func103, Tryd.ntmps103
  go_wp2
  go_region
  go_wp2
  refine wp_letterW (fun w' => Blk w' b 142 (tcells R S E m) ∧ w.grownBy w' (some b)) ⟨HB1.out.drew, HG1.out⟩ ?_
  clear c51 cm hf n1 HB1 HG1
  rintro w1 ⟨hB1, hG1⟩
  have hr1 := hB1.range 34 17
  rw [tc_d LR.out LS.out LE.out] at hr1
  have hr2 := hB1.range 0 17
  rw [tc_r LR.out] at hr2
  have U1 : Tryd.prog.underlying 138 = some (.array 17 62) := Tryd.underlying138
  have I1 : (Tryd.prog.info? 138).map (·.size) = some (u32V E).length := by rw [L17 LE.out]; exact info17
  have I2 : (Tryd.prog.info? 138).map (·.size) = some (u32V R).length := by rw [L17 LR.out]; exact info17
  refine wp_letterA (fun A0 hA0 => ?_)
  have f0x0 : A0.eval (.tmp 0) = .pointer (some ⟨b, 0, none⟩) := by rw [hA0]; rfl
  have z0 : A0.tmps.size = 30 := by rw [hA0]; rfl
  have HA0 := hide hA0
  clear hA0
  refine wp_region_any (by kernel_rfl) ?_
  change wpAny _ _ _ _ _ _ _ (World.drew _)
  refine wpAny_take (i := 0) (v := .pointer (some ⟨b, 0, none⟩)) rfl (by kernel_rfl) (by kernel_rfl) (by kernel_rfl) (fun _ _ _ h => h) (Or.inl ⟨by rfl, fun w => ?_⟩) ?_
  · rw [run_move (.tmp 0) rfl, f0x0]
  change wpAny _ _ _ _ _ _ (Act.put _ (some 15) _) _
  generalize hA1 : Act.put A0 (some 15) _ = A1
  have f1x0 : A1.eval (.tmp 0) = .pointer (some ⟨b, 0, none⟩) := by rw [← hA1]; exact (Act.eval_other _ _ _ _ (by decide)).trans f0x0
  have f1x15 : A1.eval (.tmp 15) = .pointer (some ⟨b, 0, none⟩) := by rw [← hA1]; exact Act.eval_same _ _ _ (by rw [z0]; decide)
  have z1 : A1.tmps.size = 30 := by rw [← hA1]; exact (Act.put_size _ _ _).trans z0
  refine wpAny_take (i := 1) (v := .pointer (some ⟨b, 0, none⟩)) rfl (by kernel_rfl) (by kernel_rfl) (by kernel_rfl) (fun _ _ _ h => h) (Or.inl ⟨by rfl, fun w => ?_⟩) ?_
  · rw [run_move (.tmp 0) rfl, f1x0]
  change wpAny _ _ _ _ _ _ (Act.put _ (some 16) _) _
  generalize hA2 : Act.put A1 (some 16) _ = A2
  have f2x0 : A2.eval (.tmp 0) = .pointer (some ⟨b, 0, none⟩) := by rw [← hA2]; exact (Act.eval_other _ _ _ _ (by decide)).trans f1x0
  have f2x15 : A2.eval (.tmp 15) = .pointer (some ⟨b, 0, none⟩) := by rw [← hA2]; exact (Act.eval_other _ _ _ _ (by decide)).trans f1x15
  have f2x16 : A2.eval (.tmp 16) = .pointer (some ⟨b, 0, none⟩) := by rw [← hA2]; exact Act.eval_same _ _ _ (by rw [z1]; decide)
  have z2 : A2.tmps.size = 30 := by rw [← hA2]; exact (Act.put_size _ _ _).trans z1
  refine wpAny_take (i := 2) (v := .pointer (some ⟨b, 0, none⟩)) rfl (by kernel_rfl) (by kernel_rfl) (by kernel_rfl) (fun _ _ _ h => h) (Or.inl ⟨by rfl, fun w => ?_⟩) ?_
  · exact run_nilCheck (.tmp 16) _ rfl f2x16
  change wpAny _ _ _ _ _ _ (Act.put _ (some 17) _) _
  generalize hA3 : Act.put A2 (some 17) _ = A3
  have f3x0 : A3.eval (.tmp 0) = .pointer (some ⟨b, 0, none⟩) := by rw [← hA3]; exact (Act.eval_other _ _ _ _ (by decide)).trans f2x0
  have f3x15 : A3.eval (.tmp 15) = .pointer (some ⟨b, 0, none⟩) := by rw [← hA3]; exact (Act.eval_other _ _ _ _ (by decide)).trans f2x15
  have f3x16 : A3.eval (.tmp 16) = .pointer (some ⟨b, 0, none⟩) := by rw [← hA3]; exact (Act.eval_other _ _ _ _ (by decide)).trans f2x16
  have f3x17 : A3.eval (.tmp 17) = .pointer (some ⟨b, 0, none⟩) := by rw [← hA3]; exact Act.eval_same _ _ _ (by rw [z2]; decide)
  have z3 : A3.tmps.size = 30 := by rw [← hA3]; exact (Act.put_size _ _ _).trans z2
  refine wpAny_take (i := 3) (v := .pointer (some ⟨b, 34, none⟩)) rfl (by kernel_rfl) (by kernel_rfl) (by kernel_rfl) (fun _ _ _ h => h) (Or.inl ⟨by rfl, fun w => ?_⟩) ?_
  · unfold execOp; rw [show (Oper.op _) = Op.fieldAddr 142 (.tmp 17) 2 from rfl]; simp only [f3x17]; go_simp
  change wpAny _ _ _ _ _ _ (Act.put _ (some 18) _) _
  generalize hA4 : Act.put A3 (some 18) _ = A4
  have f4x0 : A4.eval (.tmp 0) = .pointer (some ⟨b, 0, none⟩) := by rw [← hA4]; exact (Act.eval_other _ _ _ _ (by decide)).trans f3x0
  have f4x15 : A4.eval (.tmp 15) = .pointer (some ⟨b, 0, none⟩) := by rw [← hA4]; exact (Act.eval_other _ _ _ _ (by decide)).trans f3x15
  have f4x17 : A4.eval (.tmp 17) = .pointer (some ⟨b, 0, none⟩) := by rw [← hA4]; exact (Act.eval_other _ _ _ _ (by decide)).trans f3x17
  have f4x18 : A4.eval (.tmp 18) = .pointer (some ⟨b, 34, none⟩) := by rw [← hA4]; exact Act.eval_same _ _ _ (by rw [z3]; decide)
  have z4 : A4.tmps.size = 30 := by rw [← hA4]; exact (Act.put_size _ _ _).trans z3
  refine wpAny_take (i := 5) (v := .pointer (some ⟨b, 0, none⟩)) rfl (by kernel_rfl) (by kernel_rfl) (by kernel_rfl) (fun _ _ _ h => h) (Or.inl ⟨by rfl, fun w => ?_⟩) ?_
  · rw [run_move (.tmp 0) rfl, f4x0]
  change wpAny _ _ _ _ _ _ (Act.put _ (some 20) _) _
  generalize hA5 : Act.put A4 (some 20) _ = A5
  have f5x0 : A5.eval (.tmp 0) = .pointer (some ⟨b, 0, none⟩) := by rw [← hA5]; exact (Act.eval_other _ _ _ _ (by decide)).trans f4x0
  have f5x15 : A5.eval (.tmp 15) = .pointer (some ⟨b, 0, none⟩) := by rw [← hA5]; exact (Act.eval_other _ _ _ _ (by decide)).trans f4x15
  have f5x18 : A5.eval (.tmp 18) = .pointer (some ⟨b, 34, none⟩) := by rw [← hA5]; exact (Act.eval_other _ _ _ _ (by decide)).trans f4x18
  have f5x20 : A5.eval (.tmp 20) = .pointer (some ⟨b, 0, none⟩) := by rw [← hA5]; exact Act.eval_same _ _ _ (by rw [z4]; decide)
  have z5 : A5.tmps.size = 30 := by rw [← hA5]; exact (Act.put_size _ _ _).trans z4
  refine wpAny_take (i := 6) (v := .pointer (some ⟨b, 0, none⟩)) rfl (by kernel_rfl) (by kernel_rfl) (by kernel_rfl) (fun _ _ _ h => h) (Or.inl ⟨by rfl, fun w => ?_⟩) ?_
  · exact run_nilCheck (.tmp 20) _ rfl f5x20
  change wpAny _ _ _ _ _ _ (Act.put _ (some 21) _) _
  generalize hA6 : Act.put A5 (some 21) _ = A6
  have f6x15 : A6.eval (.tmp 15) = .pointer (some ⟨b, 0, none⟩) := by rw [← hA6]; exact (Act.eval_other _ _ _ _ (by decide)).trans f5x15
  have f6x18 : A6.eval (.tmp 18) = .pointer (some ⟨b, 34, none⟩) := by rw [← hA6]; exact (Act.eval_other _ _ _ _ (by decide)).trans f5x18
  have f6x20 : A6.eval (.tmp 20) = .pointer (some ⟨b, 0, none⟩) := by rw [← hA6]; exact (Act.eval_other _ _ _ _ (by decide)).trans f5x20
  have f6x21 : A6.eval (.tmp 21) = .pointer (some ⟨b, 0, none⟩) := by rw [← hA6]; exact Act.eval_same _ _ _ (by rw [z5]; decide)
  have z6 : A6.tmps.size = 30 := by rw [← hA6]; exact (Act.put_size _ _ _).trans z5
  refine wpAny_take (i := 7) (v := .pointer (some ⟨b, 0, none⟩)) rfl (by kernel_rfl) (by kernel_rfl) (by kernel_rfl) (fun _ _ _ h => h) (Or.inl ⟨by rfl, fun w => ?_⟩) ?_
  · unfold execOp; rw [show (Oper.op _) = Op.fieldAddr 142 (.tmp 21) 0 from rfl]; simp only [f6x21]; go_simp
  change wpAny _ _ _ _ _ _ (Act.put _ (some 22) _) _
  generalize hA7 : Act.put A6 (some 22) _ = A7
  have f7x15 : A7.eval (.tmp 15) = .pointer (some ⟨b, 0, none⟩) := by rw [← hA7]; exact (Act.eval_other _ _ _ _ (by decide)).trans f6x15
  have f7x18 : A7.eval (.tmp 18) = .pointer (some ⟨b, 34, none⟩) := by rw [← hA7]; exact (Act.eval_other _ _ _ _ (by decide)).trans f6x18
  have f7x21 : A7.eval (.tmp 21) = .pointer (some ⟨b, 0, none⟩) := by rw [← hA7]; exact (Act.eval_other _ _ _ _ (by decide)).trans f6x21
  have f7x22 : A7.eval (.tmp 22) = .pointer (some ⟨b, 0, none⟩) := by rw [← hA7]; exact Act.eval_same _ _ _ (by rw [z6]; decide)
  have z7 : A7.tmps.size = 30 := by rw [← hA7]; exact (Act.put_size _ _ _).trans z6
  refine wpAny_ready (rs := [4, 8]) (by kernel_rfl) (by simp) ?_
  refine AllReady.cons rfl (fun K hK => ?_) (AllReady.cons rfl (fun K hK => ?_) AllReady.nil)
  · refine step_load_mid rfl 138 (.tmp 18) rfl (b) 34 f7x18 (u32V E) (.array 17 62) hr1 U1 rfl I1 ?_
    refine hK _ _ ?_
    clear hK K
    change wpAny _ _ _ _ _ _ (Act.put _ (some 19) _) _
    generalize hA8 : Act.put A7 (some 19) _ = A8
    have f8x15 : A8.eval (.tmp 15) = .pointer (some ⟨b, 0, none⟩) := by rw [← hA8]; exact (Act.eval_other _ _ _ _ (by decide)).trans f7x15
    have f8x18 : A8.eval (.tmp 18) = .pointer (some ⟨b, 34, none⟩) := by rw [← hA8]; exact (Act.eval_other _ _ _ _ (by decide)).trans f7x18
    have f8x22 : A8.eval (.tmp 22) = .pointer (some ⟨b, 0, none⟩) := by rw [← hA8]; exact (Act.eval_other _ _ _ _ (by decide)).trans f7x22
    have f8x19 : A8.eval (.tmp 19) = .agg (u32V E).toArray := by rw [← hA8]; exact Act.eval_same _ _ _ (by rw [z7]; decide)
    have z8 : A8.tmps.size = 30 := by rw [← hA8]; exact (Act.put_size _ _ _).trans z7
    refine wpAny_ready (rs := [8]) (by kernel_rfl) (by simp) ?_
    refine AllReady.cons rfl (fun K hK => ?_) AllReady.nil
    refine step_load_mid rfl 138 (.tmp 22) rfl (b) 0 f8x22 (u32V R) (.array 17 62) hr2 U1 rfl I2 ?_
    refine hK _ _ ?_
    clear hK K
    change wpAny _ _ _ _ _ _ (Act.put _ (some 23) _) _
    generalize hA9 : Act.put A8 (some 23) _ = A9
    have f9x15 : A9.eval (.tmp 15) = .pointer (some ⟨b, 0, none⟩) := by rw [← hA9]; exact (Act.eval_other _ _ _ _ (by decide)).trans f8x15
    have f9x22 : A9.eval (.tmp 22) = .pointer (some ⟨b, 0, none⟩) := by rw [← hA9]; exact (Act.eval_other _ _ _ _ (by decide)).trans f8x22
    have f9x19 : A9.eval (.tmp 19) = .agg (u32V E).toArray := by rw [← hA9]; exact (Act.eval_other _ _ _ _ (by decide)).trans f8x19
    have f9x23 : A9.eval (.tmp 23) = .agg (u32V R).toArray := by rw [← hA9]; exact Act.eval_same _ _ _ (by rw [z8]; decide)
    have z9 : A9.tmps.size = 30 := by rw [← hA9]; exact (Act.put_size _ _ _).trans z8
    refine wpAny_ready (rs := [9]) (by kernel_rfl) (by simp) ?_
    refine AllReady.cons rfl (fun K hK => ?_) AllReady.nil
    refine step_call rfl 108 #[.tmp 19, .tmp 23] _ rfl #[.agg (u32V E).toArray, .agg (u32V R).toArray] (by simp [f9x19, f9x23]) Tryd.call108 ?_
    refine (TM.out _).mono ?_
    rintro e w4 ⟨⟨c, rfl, hF, hv⟩, hb4⟩
    refine ⟨_, rfl, hK _ _ ?_⟩
    clear hK K
    change wpAny _ _ _ _ _ _ (Act.put _ (some 24) _) _
    generalize hA10 : Act.put A9 (some 24) _ = A10
    have f10x15 : A10.eval (.tmp 15) = .pointer (some ⟨b, 0, none⟩) := by rw [← hA10]; exact (Act.eval_other _ _ _ _ (by decide)).trans f9x15
    have f10x19 : A10.eval (.tmp 19) = .agg (u32V E).toArray := by rw [← hA10]; exact (Act.eval_other _ _ _ _ (by decide)).trans f9x19
    have f10x23 : A10.eval (.tmp 23) = .agg (u32V R).toArray := by rw [← hA10]; exact (Act.eval_other _ _ _ _ (by decide)).trans f9x23
    have f10x24 : A10.eval (.tmp 24) = .agg (u32V c).toArray := by rw [← hA10]; exact Act.eval_same _ _ _ (by rw [z9]; decide)
    have z10 : A10.tmps.size = 30 := by rw [← hA10]; exact (Act.put_size _ _ _).trans z9
    have hB4 := hB1.drew.below hb4 hB1.lt
    have hG4 := hG1.drew.trans (hb4.grownBy _)
    have LC := hF.1.1
    refine wpAny_take (i := 10) (v := .pointer (some ⟨b, 0, none⟩)) rfl (by kernel_rfl) (by kernel_rfl) (by kernel_rfl) (fun _ _ _ h => h) (Or.inl ⟨by rfl, fun w => ?_⟩) ?_
    · exact run_nilCheck (.tmp 15) _ rfl f10x15
    change wpAny _ _ _ _ _ _ (Act.put _ (some 25) _) _
    generalize hA11 : Act.put A10 (some 25) _ = A11
    have f11x15 : A11.eval (.tmp 15) = .pointer (some ⟨b, 0, none⟩) := by rw [← hA11]; exact (Act.eval_other _ _ _ _ (by decide)).trans f10x15
    have f11x24 : A11.eval (.tmp 24) = .agg (u32V c).toArray := by rw [← hA11]; exact (Act.eval_other _ _ _ _ (by decide)).trans f10x24
    have f11x25 : A11.eval (.tmp 25) = .pointer (some ⟨b, 0, none⟩) := by rw [← hA11]; exact Act.eval_same _ _ _ (by rw [z10]; decide)
    have z11 : A11.tmps.size = 30 := by rw [← hA11]; exact (Act.put_size _ _ _).trans z10
    refine wpAny_take (i := 11) (v := .pointer (some ⟨b, 34, none⟩)) rfl (by kernel_rfl) (by kernel_rfl) (by kernel_rfl) (fun _ _ _ h => h) (Or.inl ⟨by rfl, fun w => ?_⟩) ?_
    · unfold execOp; rw [show (Oper.op _) = Op.fieldAddr 142 (.tmp 25) 2 from rfl]; simp only [f11x25]; go_simp
    change wpAny _ _ _ _ _ _ (Act.put _ (some 26) _) _
    generalize hA12 : Act.put A11 (some 26) _ = A12
    have f12x24 : A12.eval (.tmp 24) = .agg (u32V c).toArray := by rw [← hA12]; exact (Act.eval_other _ _ _ _ (by decide)).trans f11x24
    have f12x25 : A12.eval (.tmp 25) = .pointer (some ⟨b, 0, none⟩) := by rw [← hA12]; exact (Act.eval_other _ _ _ _ (by decide)).trans f11x25
    have f12x26 : A12.eval (.tmp 26) = .pointer (some ⟨b, 34, none⟩) := by rw [← hA12]; exact Act.eval_same _ _ _ (by rw [z11]; decide)
    have z12 : A12.tmps.size = 30 := by rw [← hA12]; exact (Act.put_size _ _ _).trans z11
    refine wpAny_ready (rs := [12]) (by kernel_rfl) (by simp) ?_
    refine AllReady.cons rfl (fun K hK => ?_) AllReady.nil
    refine step_store_blk rfl 138 (.tmp 26) (.tmp 24) rfl b 34 (u32V c).toArray f12x26 f12x24 (by rw [info17]; simp [u32V_len, LC]) (all_oneCell_toArray (u32V_one _)) 142 (tcells R S E m) hB4 (by rw [tc_len LR.out LS.out LE.out]; simp [u32V_len, LC]) ?_
    intro w5 hB5 hG5
    rw [show ((u32V c).toArray.toList) = u32V c from rfl, tc_over LR.out LS.out LE.out LC] at hB5
    have hG6 := hG4.trans hG5
    refine hK _ _ ?_
    clear hK K
    refine wpAny_done (by kernel_rfl) ?_ _
    subst hA12 hA11 hA10 hA9 hA8 hA7 hA6 hA5 hA4 hA3 hA2 hA1
    rw [HA0.out]
    clear HA0 z0 hb4 hB4 hG4 hG5 hr1 hr2 U1 I1 I2 hB1 hG1 TM
    have hf := hB5.frozen
    have c51 := hB5.cell (tc_count LR.out LS.out LC)
    have hB7 := hB5.setCell_same 51 (.int .i64 ((0 : Nat) : Int))
    rw [tc_putc LR.out LS.out LC] at hB7
    have HB7 := hide hB7
    have HG7 := hide (hG6.setCell 51 (.int .i64 ((0 : Nat) : Int)))
    clear hB7 hB5 hG6
    go_wp2
    go_end0
    exact ⟨rfl, ⟨c, hF, hv, HB7.out⟩, HG7.out⟩
  · refine step_load_mid rfl 138 (.tmp 22) rfl (b) 0 f7x22 (u32V R) (.array 17 62) hr2 U1 rfl I2 ?_
    refine hK _ _ ?_
    clear hK K
    change wpAny _ _ _ _ _ _ (Act.put _ (some 23) _) _
    generalize hA8 : Act.put A7 (some 23) _ = A8
    have f8x15 : A8.eval (.tmp 15) = .pointer (some ⟨b, 0, none⟩) := by rw [← hA8]; exact (Act.eval_other _ _ _ _ (by decide)).trans f7x15
    have f8x18 : A8.eval (.tmp 18) = .pointer (some ⟨b, 34, none⟩) := by rw [← hA8]; exact (Act.eval_other _ _ _ _ (by decide)).trans f7x18
    have f8x22 : A8.eval (.tmp 22) = .pointer (some ⟨b, 0, none⟩) := by rw [← hA8]; exact (Act.eval_other _ _ _ _ (by decide)).trans f7x22
    have f8x23 : A8.eval (.tmp 23) = .agg (u32V R).toArray := by rw [← hA8]; exact Act.eval_same _ _ _ (by rw [z7]; decide)
    have z8 : A8.tmps.size = 30 := by rw [← hA8]; exact (Act.put_size _ _ _).trans z7
    refine wpAny_ready (rs := [4]) (by kernel_rfl) (by simp) ?_
    refine AllReady.cons rfl (fun K hK => ?_) AllReady.nil
    refine step_load_mid rfl 138 (.tmp 18) rfl (b) 34 f8x18 (u32V E) (.array 17 62) hr1 U1 rfl I1 ?_
    refine hK _ _ ?_
    clear hK K
    change wpAny _ _ _ _ _ _ (Act.put _ (some 19) _) _
    generalize hA9 : Act.put A8 (some 19) _ = A9
    have f9x15 : A9.eval (.tmp 15) = .pointer (some ⟨b, 0, none⟩) := by rw [← hA9]; exact (Act.eval_other _ _ _ _ (by decide)).trans f8x15
    have f9x18 : A9.eval (.tmp 18) = .pointer (some ⟨b, 34, none⟩) := by rw [← hA9]; exact (Act.eval_other _ _ _ _ (by decide)).trans f8x18
    have f9x23 : A9.eval (.tmp 23) = .agg (u32V R).toArray := by rw [← hA9]; exact (Act.eval_other _ _ _ _ (by decide)).trans f8x23
    have f9x19 : A9.eval (.tmp 19) = .agg (u32V E).toArray := by rw [← hA9]; exact Act.eval_same _ _ _ (by rw [z8]; decide)
    have z9 : A9.tmps.size = 30 := by rw [← hA9]; exact (Act.put_size _ _ _).trans z8
    refine wpAny_ready (rs := [9]) (by kernel_rfl) (by simp) ?_
    refine AllReady.cons rfl (fun K hK => ?_) AllReady.nil
    refine step_call rfl 108 #[.tmp 19, .tmp 23] _ rfl #[.agg (u32V E).toArray, .agg (u32V R).toArray] (by simp [f9x19, f9x23]) Tryd.call108 ?_
    refine (TM.out _).mono ?_
    rintro e w4 ⟨⟨c, rfl, hF, hv⟩, hb4⟩
    refine ⟨_, rfl, hK _ _ ?_⟩
    clear hK K
    change wpAny _ _ _ _ _ _ (Act.put _ (some 24) _) _
    generalize hA10 : Act.put A9 (some 24) _ = A10
    have f10x15 : A10.eval (.tmp 15) = .pointer (some ⟨b, 0, none⟩) := by rw [← hA10]; exact (Act.eval_other _ _ _ _ (by decide)).trans f9x15
    have f10x23 : A10.eval (.tmp 23) = .agg (u32V R).toArray := by rw [← hA10]; exact (Act.eval_other _ _ _ _ (by decide)).trans f9x23
    have f10x19 : A10.eval (.tmp 19) = .agg (u32V E).toArray := by rw [← hA10]; exact (Act.eval_other _ _ _ _ (by decide)).trans f9x19
    have f10x24 : A10.eval (.tmp 24) = .agg (u32V c).toArray := by rw [← hA10]; exact Act.eval_same _ _ _ (by rw [z9]; decide)
    have z10 : A10.tmps.size = 30 := by rw [← hA10]; exact (Act.put_size _ _ _).trans z9
    have hB4 := hB1.drew.below hb4 hB1.lt
    have hG4 := hG1.drew.trans (hb4.grownBy _)
    have LC := hF.1.1
    refine wpAny_take (i := 10) (v := .pointer (some ⟨b, 0, none⟩)) rfl (by kernel_rfl) (by kernel_rfl) (by kernel_rfl) (fun _ _ _ h => h) (Or.inl ⟨by rfl, fun w => ?_⟩) ?_
    · exact run_nilCheck (.tmp 15) _ rfl f10x15
    change wpAny _ _ _ _ _ _ (Act.put _ (some 25) _) _
    generalize hA11 : Act.put A10 (some 25) _ = A11
    have f11x15 : A11.eval (.tmp 15) = .pointer (some ⟨b, 0, none⟩) := by rw [← hA11]; exact (Act.eval_other _ _ _ _ (by decide)).trans f10x15
    have f11x24 : A11.eval (.tmp 24) = .agg (u32V c).toArray := by rw [← hA11]; exact (Act.eval_other _ _ _ _ (by decide)).trans f10x24
    have f11x25 : A11.eval (.tmp 25) = .pointer (some ⟨b, 0, none⟩) := by rw [← hA11]; exact Act.eval_same _ _ _ (by rw [z10]; decide)
    have z11 : A11.tmps.size = 30 := by rw [← hA11]; exact (Act.put_size _ _ _).trans z10
    refine wpAny_take (i := 11) (v := .pointer (some ⟨b, 34, none⟩)) rfl (by kernel_rfl) (by kernel_rfl) (by kernel_rfl) (fun _ _ _ h => h) (Or.inl ⟨by rfl, fun w => ?_⟩) ?_
    · unfold execOp; rw [show (Oper.op _) = Op.fieldAddr 142 (.tmp 25) 2 from rfl]; simp only [f11x25]; go_simp
    change wpAny _ _ _ _ _ _ (Act.put _ (some 26) _) _
    generalize hA12 : Act.put A11 (some 26) _ = A12
    have f12x24 : A12.eval (.tmp 24) = .agg (u32V c).toArray := by rw [← hA12]; exact (Act.eval_other _ _ _ _ (by decide)).trans f11x24
    have f12x25 : A12.eval (.tmp 25) = .pointer (some ⟨b, 0, none⟩) := by rw [← hA12]; exact (Act.eval_other _ _ _ _ (by decide)).trans f11x25
    have f12x26 : A12.eval (.tmp 26) = .pointer (some ⟨b, 34, none⟩) := by rw [← hA12]; exact Act.eval_same _ _ _ (by rw [z11]; decide)
    have z12 : A12.tmps.size = 30 := by rw [← hA12]; exact (Act.put_size _ _ _).trans z11
    refine wpAny_ready (rs := [12]) (by kernel_rfl) (by simp) ?_
    refine AllReady.cons rfl (fun K hK => ?_) AllReady.nil
    refine step_store_blk rfl 138 (.tmp 26) (.tmp 24) rfl b 34 (u32V c).toArray f12x26 f12x24 (by rw [info17]; simp [u32V_len, LC]) (all_oneCell_toArray (u32V_one _)) 142 (tcells R S E m) hB4 (by rw [tc_len LR.out LS.out LE.out]; simp [u32V_len, LC]) ?_
    intro w5 hB5 hG5
    rw [show ((u32V c).toArray.toList) = u32V c from rfl, tc_over LR.out LS.out LE.out LC] at hB5
    have hG6 := hG4.trans hG5
    refine hK _ _ ?_
    clear hK K
    refine wpAny_done (by kernel_rfl) ?_ _
    subst hA12 hA11 hA10 hA9 hA8 hA7 hA6 hA5 hA4 hA3 hA2 hA1
    rw [HA0.out]
    clear HA0 z0 hb4 hB4 hG4 hG5 hr1 hr2 U1 I1 I2 hB1 hG1 TM
    have hf := hB5.frozen
    have c51 := hB5.cell (tc_count LR.out LS.out LC)
    have hB7 := hB5.setCell_same 51 (.int .i64 ((0 : Nat) : Int))
    rw [tc_putc LR.out LS.out LC] at hB7
    have HB7 := hide hB7
    have HG7 := hide (hG6.setCell 51 (.int .i64 ((0 : Nat) : Int)))
    clear hB7 hB5 hG6
    go_wp2
    go_end0
    exact ⟨rfl, ⟨c, hF, hv, HB7.out⟩, HG7.out⟩
end Go.Proofs.YtpogfcfgbnccjabDoor
