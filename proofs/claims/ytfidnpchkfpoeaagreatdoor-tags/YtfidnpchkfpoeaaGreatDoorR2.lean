import Derived.Test.YtfidnpchkfpoeaaGreatDoorR1
import Derived.Deep.RegionLaw
namespace Go.Proofs.YtfidnpchkfpoeaaGreatDoor
open Go.RowKit

def i64V (l : List Nat) : List Value := l.map fun x : Nat => Value.int .i64 ((x : Nat) : Int)
theorem i64V_append (l m : List Nat) : i64V (l ++ m) = i64V l ++ i64V m := by simp [i64V]
theorem i64V_at (l : List Nat) (i : Nat) (hi : i < l.length) : (i64V l)[i]? = some (.int .i64 (Sha.wAt l i : Nat)) := by
  simp [i64V, Sha.wAt, hi]
theorem i64V_one (l : List Nat) : ∀ v ∈ i64V l, v.oneCell' = true := by
  intro v hv
  obtain ⟨x, _, rfl⟩ := List.mem_map.1 hv
  rfl
theorem infoInt : (Tryz.prog.info? 3).map (fun i => (i.zero, i.size, i.bytes)) = some (some (.int .i64 0), 1, 8) := by kernel_rfl

/-- append(s, x) of one int: 's' owns its row; x lies in a block of its own. -/
theorem wpList_append_int {ops : Array Oper} {rest : List Oper} {o : Oper} {a : Act} {w : World} {Q : Exit → Act → World → Prop} (hgd : o.guard = none) (s x : Operand)
    (ho : o.op = .call { callee := .builtin .append, args := #[s, x], argTypes := #[24, 24] })
    (base : Nat) (v : Value) (n : Nat) (xs : List Value) (hs : a.eval s = v) (hown : w.ownsRow base 3 1 v n xs)
    (g : Nat) (y : Int) (hx : a.eval x = .slice (some ⟨g, 0, none⟩) 1 1) (hnew : w.cell? ⟨g, 0, none⟩ = some (.int .i64 y)) (hn : n ≤ 1073741824) (hbase : base ≤ w.heap.size)
    (h : ∀ v' w', w'.ownsRow base 3 1 v' (n + 1) (xs ++ [.int .i64 y]) → w.grownBy w' v.ownBlock → wpList Tryz.prog ops Q rest (a.put o.dst v') w') : wpList Tryz.prog ops Q (o :: rest) a w := by
  obtain ⟨i0, hi, hz0, hz1, hz2⟩ := info_parts infoInt
  refine wpList_append_own w hgd s x 24 ho base 3 i0 (.int .i64 0) 1 8 Tryz.underlying24 hi hz0 hz1 hz2 rfl (by decide) v n xs hs hown ⟨g, 0, none⟩ 1 1 [.int .i64 y] hx rfl ?_ ?_ ?_ ?_ hbase (fun v' w' h1 h2 _ => h v' w' h1 h2)
  · intro j u hj
    match j, hj with
    | 0, hj => simp at hj; subst hj; simpa [Addr.add] using hnew
  · intro u hu; simp at hu; subst hu; rfl
  · unfold maxLen; omega
  · omega

/-- The same as one step of a region that draws. -/
theorem step_append_int {ops : Array Oper} {o : Oper} {a : Act} {w : World} {K : Act → World → Prop} {Q : Exit → Act → World → Prop} {E : Prop} (hgd : o.guard = none) (s x : Operand)
    (ho : o.op = .call { callee := .builtin .append, args := #[s, x], argTypes := #[24, 24] })
    (base : Nat) (v : Value) (n : Nat) (xs : List Value) (hs : a.eval s = v) (hown : w.ownsRow base 3 1 v n xs)
    (g : Nat) (y : Int) (hx : a.eval x = .slice (some ⟨g, 0, none⟩) 1 1) (hnew : w.cell? ⟨g, 0, none⟩ = some (.int .i64 y)) (hn : n ≤ 1073741824) (hbase : base ≤ w.heap.size)
    (h : ∀ v' w', w'.ownsRow base 3 1 v' (n + 1) (xs ++ [.int .i64 y]) → w.grownBy w' v.ownBlock → K (a.put o.dst v') w') :
    if Region.wanted o (yielded ops a.tmps) = true then Oper.wp Tryz.prog o a w K Q else E := by
  rw [if_pos (by simp [Region.wanted, hgd])]
  obtain ⟨i0, hi, hz0, hz1, hz2⟩ := info_parts infoInt
  refine wp_append_own w s x 24 ho base 3 i0 (.int .i64 0) 1 8 Tryz.underlying24 hi hz0 hz1 hz2 rfl (by decide) v n xs hs hown ⟨g, 0, none⟩ 1 1 [.int .i64 y] hx rfl ?_ ?_ ?_ ?_ hbase (fun v' w' h1 h2 _ => h v' w' h1 h2)
  · intro j u hj
    match j, hj with
    | 0, hj => simp at hj; subst hj; simpa [Addr.add] using hnew
  · intro u hu; simp at hu; subst hu; rfl
  · unfold maxLen; omega
  · omega
theorem own_drewN {w : World} {base : Nat} {e : TypeId} {size : Nat} {v : Value} {n : Nat} {xs : List Value} (h : w.ownsRow base e size v n xs) (m : Nat) : (w.drewN m).ownsRow base e size v n xs := h
theorem new_one {w : World} {m : Nat} {v : Value} {t : TypeId} : ((w.drewN m).alloc (.cells #[v] t)).cell? ⟨w.heap.size, 0, none⟩ = some v := (World.cell?_alloc_at _ _ _ _ rfl).trans rfl
theorem new_size {w : World} {m b : Nat} {o : Obj} (h : b ≤ w.heap.size) : b ≤ ((w.drewN m).alloc o).heap.size := by
  show b ≤ (w.alloc o).heap.size
  simp; omega
theorem new_one' {w : World} {m : Nat} {v : Value} {t : TypeId} : ((w.drewN m).drew.alloc (.cells #[v] t)).cell? ⟨w.heap.size, 0, none⟩ = some v := (World.cell?_alloc_at _ _ _ _ rfl).trans rfl
theorem new_size' {w : World} {m b : Nat} {o : Obj} (h : b ≤ w.heap.size) : b ≤ ((w.drewN m).drew.alloc o).heap.size := by
  show b ≤ (w.alloc o).heap.size
  simp; omega
theorem own_cell {w : World} {base : Nat} {e : TypeId} {v : Value} {n : Nat} {xs : List Value} (h : w.ownsRow base e 1 v n xs) (hn : 0 < n) :
    ∃ g cap, v = .slice (some ⟨g, 0, none⟩) n cap ∧ n ≤ cap ∧ base ≤ g ∧ g < w.heap.size ∧ ∀ i u, xs[i]? = some u → w.cell? ⟨g, i, none⟩ = some u := by
  rcases h.2 with ⟨_, h0⟩ | ⟨g, cap, cur, rfl, hb, hg, hc, _⟩
  · omega
  · refine ⟨g, cap, rfl, hc, hb, (Array.getElem?_eq_some_iff.1 hg).1, fun i u hu => ?_⟩
    have := h.cells (g := g) rfl i u hu
    rwa [show (⟨g, 0, none⟩ : Addr).add i = ⟨g, i, none⟩ by rw [Addr.add_mid]; simp] at this

theorem str_by8 (s : ByteArray) (i : Nat) (h : i < s.size) : (s[i]).toNat = Sha.by8 s.data.toList i := by
  unfold Sha.by8
  rw [List.getD_eq_getElem?_getD, List.getElem?_eq_getElem (by simpa using h)]
  rfl

theorem be_wrap (a b c d : Nat) (ha : a < 256) (hb : b < 256) (hc : c < 256) (hd : d < 256) :
    wrap64 (wrap64 (wrap64 (wrap64 (wrap64 (wrap64 (wrap64 (a : Int) * 256) + wrap64 (b : Int)) * 256) + wrap64 (c : Int)) * 256) + wrap64 (d : Int)) = ((((a * 256 + b) * 256 + c) * 256 + d : Nat) : Int) := by
  rw [IntWalk.wrap64_in (a : Int) (by omega), IntWalk.wrap64_in (b : Int) (by omega), IntWalk.wrap64_in (c : Int) (by omega), IntWalk.wrap64_in (d : Int) (by omega),
    IntWalk.wrap64_in ((a : Int) * 256) (by omega), IntWalk.wrap64_in ((a : Int) * 256 + b) (by omega), IntWalk.wrap64_in (((a : Int) * 256 + b) * 256) (by omega),
    IntWalk.wrap64_in (((a : Int) * 256 + b) * 256 + c) (by omega), IntWalk.wrap64_in ((((a : Int) * 256 + b) * 256 + c) * 256) (by omega), IntWalk.wrap64_in ((((a : Int) * 256 + b) * 256 + c) * 256 + d) (by omega)]
  omega
theorem refS1 (v : Nat) (w : World) (hv : v < 4294967296) : Calls Tryz.prog 101 #[.int .i64 v, .int .i64 17, .int .i64 19, .int .i64 10, .bool true] w fun e w' => e = .returned (.int .i64 (Sha.s1 v : Nat)) ∧ ∃ m, w' = w.drewN m := three_moved v 17 19 10 w hv (by omega) (by omega) (by omega)
theorem refS0 (v : Nat) (w : World) (hv : v < 4294967296) : Calls Tryz.prog 101 #[.int .i64 v, .int .i64 7, .int .i64 18, .int .i64 3, .bool true] w fun e w' => e = .returned (.int .i64 (Sha.s0 v : Nat)) ∧ ∃ m, w' = w.drewN m := three_moved v 7 18 3 w hv (by omega) (by omega) (by omega)
theorem refB1 (v : Nat) (w : World) (hv : v < 4294967296) : Calls Tryz.prog 101 #[.int .i64 v, .int .i64 6, .int .i64 11, .int .i64 25, .bool false] w fun e w' => e = .returned (.int .i64 (Sha.b1 v : Nat)) ∧ ∃ m, w' = w.drewN m := three_turned v 6 11 25 w hv (by omega) (by omega) (by omega)
theorem refB0 (v : Nat) (w : World) (hv : v < 4294967296) : Calls Tryz.prog 101 #[.int .i64 v, .int .i64 2, .int .i64 13, .int .i64 22, .bool false] w fun e w' => e = .returned (.int .i64 (Sha.b0 v : Nat)) ∧ ∃ m, w' = w.drewN m := three_turned v 2 13 22 w hv (by omega) (by omega) (by omega)
theorem sched_snoc (b : List UInt8) (k x : Nat) (v : Int) (hv : v = (x : Nat)) (hx : x = Sha.schedStep b (Sha.sched b k) k) : i64V (Sha.sched b k) ++ [.int .i64 v] = i64V (Sha.sched b (k + 1)) := by
  subst hv hx
  show _ = i64V (Sha.sched b k ++ [Sha.schedStep b (Sha.sched b k) k])
  rw [i64V_append]; rfl
theorem below_append {B : Nat} {a w w1 : World} {e : TypeId} {v : Value} {n : Nat} {xs : List Value} {o : Obj} {m : Nat} (hbe : Below B a w) (hB : B ≤ w.heap.size) (hown : w.ownsRow B e 1 v n xs) (hg : ((w.drewN m).alloc o).grownBy w1 v.ownBlock) : Below B a w1 :=
  Below.grown ((below_drewN hbe m).alloc hB o) hg (new_size hB) (fun k hk => (hown.lt k hk).1)

theorem below_append' {B : Nat} {a w w1 : World} {e : TypeId} {v : Value} {n : Nat} {xs : List Value} {o : Obj} {m : Nat} (hbe : Below B a w) (hB : B ≤ w.heap.size) (hown : w.ownsRow B e 1 v n xs) (hg : ((w.drewN m).drew.alloc o).grownBy w1 v.ownBlock) : Below B a w1 :=
  Below.grown ((below_drewN hbe m).drew.alloc hB o) hg (new_size' hB) (fun k hk => (hown.lt k hk).1)

set_option maxRecDepth 100000 in
set_option maxHeartbeats 800000 in
theorem words_any (s : ByteArray) (w : World) (hs : s.size = 64) :
    Calls Tryz.prog 100 #[.string s] w fun e w' => ∃ v, e = .returned v ∧ w'.ownsRow w.heap.size 3 1 v 64 (i64V (Sha.sched s.data.toList 64)) ∧ Below w.heap.size w w' := by
  have hs32 : 64 ≤ s.size := by omega
  have hs33 : s.size ≤ 64 := by omega
  clear hs
  go_enter Tryz.func100, Tryz.ntmps100
  go_wp2
  go_loopw [3, 4] (fun v i wr => ∃ k : Nat, k ≤ 64 ∧ i = .int .i64 k ∧ wr.ownsRow w.heap.size 3 1 v k (i64V (Sha.sched s.data.toList k)) ∧ Below w.heap.size w wr) (fun _ i _ => 64 - (intOf i).toNat)
  case atStart => exact ⟨0, by omega, rfl, World.ownsRow_nil _ _ _ _, Below.refl _ _⟩
  case round =>
    obtain ⟨k, hk, rfl, hown, hbe⟩ := hrel
    by_cases hlt : k < 64
    · by_cases h16 : k < 16
      · obtain ⟨ia, hia⟩ : ∃ a : Nat, a = 4 * k := ⟨_, rfl⟩
        obtain ⟨ib, hib⟩ : ∃ a : Nat, a = 4 * k + 1 := ⟨_, rfl⟩
        obtain ⟨ic, hic⟩ : ∃ a : Nat, a = 4 * k + 2 := ⟨_, rfl⟩
        obtain ⟨id, hid⟩ : ∃ a : Nat, a = 4 * k + 3 := ⟨_, rfl⟩
        have i1 : ia < s.size := by omega
        have i2 : ib < s.size := by omega
        have i3 : ic < s.size := by omega
        have i4 : id < s.size := by omega
        have q0 : IntKind.i64.wrap (4 * (k : Int)) = (ia : Int) := (IntWalk.i64_in _ (by omega)).trans (by omega)
        have q1 : IntKind.i64.wrap ((ia : Int) + 1) = (ib : Int) := (IntWalk.i64_in _ (by omega)).trans (by omega)
        have q2 : IntKind.i64.wrap ((ia : Int) + 2) = (ic : Int) := (IntWalk.i64_in _ (by omega)).trans (by omega)
        have q3 : IntKind.i64.wrap ((ia : Int) + 3) = (id : Int) := (IntWalk.i64_in _ (by omega)).trans (by omega)
        have R : Sha.be s.data.toList k = (((s[ia].toNat * 256 + s[ib].toNat) * 256 + s[ic].toNat) * 256 + s[id].toNat) := by
          rw [str_by8 s ia i1, str_by8 s ib i2, str_by8 s ic i3, str_by8 s id i4, hia, hib, hic, hid]; rfl
        have HR := hide R
        clear R hia hib hic hid
        go_wp2
        go_quiet (fail)
        have hsz := hbe.size
        go_wp2_with (at_builtin; refine wpList_append_int rfl (.tmp 43) (.tmp 45) rfl w.heap.size _ k _ rfl ((own_drewN hown _).alloc _) wr.heap.size _ rfl new_one ?_ (new_size hsz) ?_; omega; intro v1 w1 hown1 hgrow1)
        go_roundw
        case rel =>
          refine ⟨k + 1, by omega, by go_num, ?_, below_append hbe hsz hown hgrow1⟩
          rw [sched_snoc s.data.toList k (Sha.be s.data.toList k) _ ?_ ?_] at hown1
          · exact hown1
          · rw [HR.out]; exact be_wrap _ _ _ _ (UInt8.toNat_lt _) (UInt8.toNat_lt _) (UInt8.toNat_lt _) (UInt8.toNat_lt _)
          · rw [Sha.schedStep, if_pos h16]
        case measure => simp [intOf]; omega
      · obtain ⟨g, cap, rfl, hcap, hg1, hg2, hcell⟩ := own_cell hown (by omega)
        obtain ⟨ia, hia⟩ : ∃ a : Nat, a + 16 = k := ⟨k - 16, by omega⟩
        obtain ⟨ib, hib⟩ : ∃ a : Nat, a + 15 = k := ⟨k - 15, by omega⟩
        obtain ⟨ic, hic⟩ : ∃ a : Nat, a + 7 = k := ⟨k - 7, by omega⟩
        obtain ⟨id, hid⟩ : ∃ a : Nat, a + 2 = k := ⟨k - 2, by omega⟩
        have c0 := hcell ia _ (i64V_at (Sha.sched s.data.toList k) ia (by rw [Sha.sched_len]; omega))
        have c1 := hcell ib _ (i64V_at (Sha.sched s.data.toList k) ib (by rw [Sha.sched_len]; omega))
        have c2 := hcell ic _ (i64V_at (Sha.sched s.data.toList k) ic (by rw [Sha.sched_len]; omega))
        have c3 := hcell id _ (i64V_at (Sha.sched s.data.toList k) id (by rw [Sha.sched_len]; omega))
        have i1 : ia < k := by omega
        have i3 : ib < k := by omega
        have i5 : ic < k := by omega
        have i7 : id < k := by omega
        have q0 : IntKind.i64.wrap ((k : Int) - 16) = (ia : Int) := (IntWalk.i64_in _ (by omega)).trans (by omega)
        have q1 : IntKind.i64.wrap ((k : Int) - 15) = (ib : Int) := (IntWalk.i64_in _ (by omega)).trans (by omega)
        have q2 : IntKind.i64.wrap ((k : Int) - 7) = (ic : Int) := (IntWalk.i64_in _ (by omega)).trans (by omega)
        have q3 : IntKind.i64.wrap ((k : Int) - 2) = (id : Int) := (IntWalk.i64_in _ (by omega)).trans (by omega)
        have w0 := Sha.wAt_sched_lt s.data.toList k ia
        have w1 := Sha.wAt_sched_lt s.data.toList k ib
        have w2 := Sha.wAt_sched_lt s.data.toList k ic
        have w3 := Sha.wAt_sched_lt s.data.toList k id
        have hsz := hbe.size
        have R : Sha.schedStep s.data.toList (Sha.sched s.data.toList k) k = (Sha.s1 (Sha.wAt (Sha.sched s.data.toList k) id) + Sha.wAt (Sha.sched s.data.toList k) ic + Sha.s0 (Sha.wAt (Sha.sched s.data.toList k) ib) + Sha.wAt (Sha.sched s.data.toList k) ia) % 4294967296 := by
          rw [Sha.schedStep, if_neg h16, show k - 2 = id by omega, show k - 7 = ic by omega, show k - 15 = ib by omega, show k - 16 = ia by omega]
        have HR := hide R
        clear R hia hib hic hid hcell
        generalize Sha.wAt (Sha.sched s.data.toList k) ia = xa at *
        generalize Sha.wAt (Sha.sched s.data.toList k) ib = xb at *
        generalize Sha.wAt (Sha.sched s.data.toList k) ic = xc at *
        generalize Sha.wAt (Sha.sched s.data.toList k) id = xd at *
        have y0 := Sha.s0_lt xb w1
        have y1 := Sha.s1_lt xd w3
        go_wp2_with fail
        refine (refS1 xd _ w3).mono ?_
        rintro e w1 ⟨rfl, m1, rfl⟩
        go_wp2_with fail
        refine (refS0 xb _ w1).mono ?_
        rintro e w1 ⟨rfl, m2, rfl⟩
        generalize Sha.s0 xb = z0 at *
        generalize Sha.s1 xd = z1 at *
        have t1 : IntKind.i64.wrap ((z1 : Int) + (xc : Int)) = (z1 : Int) + (xc : Int) := IntWalk.i64_in _ (by omega)
        have t2 : IntKind.i64.wrap ((z1 : Int) + (xc : Int) + (z0 : Int)) = (z1 : Int) + (xc : Int) + (z0 : Int) := IntWalk.i64_in _ (by omega)
        have t3 : IntKind.i64.wrap ((z1 : Int) + (xc : Int) + (z0 : Int) + (xa : Int)) = (z1 : Int) + (xc : Int) + (z0 : Int) + (xa : Int) := IntWalk.i64_in _ (by omega)
        obtain ⟨N, hN⟩ : ∃ N, N = (z1 + xc + z0 + xa) % 4294967296 := ⟨_, rfl⟩
        have t4 : ((z1 : Int) + (xc : Int) + (z0 : Int) + (xa : Int)).tmod 4294967296 = (N : Int) := by rw [Int.tmod_eq_emod_of_nonneg (by omega)]; omega
        have t5 : IntKind.i64.wrap (N : Int) = (N : Int) := IntWalk.i64_in _ (by omega)
        have HN := hide hN
        clear hN
        go_wp2
        go_region_law (refine step_append_int rfl (.tmp 59) (.tmp 76) rfl w.heap.size _ k _ rfl ((own_drewN hown _).drew.alloc _) wr.heap.size _ rfl new_one' ?_ (new_size' hsz) ?_; omega; intro v1 w1 hown1 hgrow1)
        all_goals
          clear q0 q1 q2 q3 t1 t2 t3 t4 t5 c0 c1 c2 c3
          go_wp2
          go_roundw
          case rel =>
            refine ⟨k + 1, by omega, by go_num, ?_, below_append' hbe hsz hown hgrow1⟩
            rw [sched_snoc s.data.toList k N _ rfl (HN.out.trans HR.out.symm)] at hown1
            exact hown1
          case measure => simp [intOf]; omega
    · have h64 : k = 64 := by omega
      go_wp2
      go_ret
      exact ⟨_, rfl, by rw [h64] at hown; exact hown, hbe⟩
end Go.Proofs.YtfidnpchkfpoeaaGreatDoor
