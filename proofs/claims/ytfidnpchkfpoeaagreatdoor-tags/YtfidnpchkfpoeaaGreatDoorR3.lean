import Derived.Test.YtfidnpchkfpoeaaGreatDoorR2
import Derived.Test.YtfidnpchkfpoeaaGreatDoorRK
import Derived.Test.YtfidnpchkfpoeaaGreatDoorAct1
import Derived.Laws.CopyOwn
import Derived.Deep.RegionHeld3
namespace Go.Proofs.YtfidnpchkfpoeaaGreatDoor
open Go.RowKit

theorem own_blk {w : World} {base : Nat} {e : TypeId} {v : Value} {n : Nat} {xs : List Value} (h : w.ownsRow base e 1 v n xs) (hn : 0 < n) :
    ∃ g cap cur, v = .slice (some ⟨g, 0, none⟩) n cap ∧ n ≤ cap ∧ base ≤ g ∧ Blk w g e cur ∧ cur.length = cap ∧ cur.take n = xs := by
  rcases h.2 with ⟨_, h0⟩ | ⟨g, cap, cur, rfl, hb, hg, hc, _, hsz, ht⟩
  · omega
  · refine ⟨g, cap, cur.toList, rfl, hc, hb, ?_, by simpa using hsz, by simpa using ht⟩
    unfold Blk; simpa using hg
theorem take_at {cur xs : List Value} {n i : Nat} {v : Value} (h : cur.take n = xs) (hi : xs[i]? = some v) : cur[i]? = some v := by
  rw [← h, List.getElem?_take] at hi
  split at hi
  · exact hi
  · cases hi
theorem make8 (w : World) : (Instr.makeSlice 24 (.int .i64 8) (.int .i64 8)).run Tryz.prog w = .ok (.slice (some ⟨w.heap.size, 0, none⟩) 8 8) (w.alloc (.cells #[.int .i64 0, .int .i64 0, .int .i64 0, .int .i64 0, .int .i64 0, .int .i64 0, .int .i64 0, .int .i64 0] 3)) := by kernel_rfl
theorem infoInt1 : (Tryz.prog.info? 3).map (·.size) = some 1 := by kernel_rfl

theorem round_open (s : Sha.St) (ws : List Nat) (k : Nat) (r : Sha.St) (hr : Sha.rnds ws s k = r) : Sha.rnds ws s (k + 1) =
    ⟨((r.h + Sha.b1 r.e + Sha.ch r.e r.f r.g + Sha.wAt Sha.Kt k + Sha.wAt ws k) % 4294967296 + Sha.b0 r.a + Sha.maj r.a r.b r.c) % 4294967296, r.a, r.b, r.c,
      (r.d + (r.h + Sha.b1 r.e + Sha.ch r.e r.f r.g + Sha.wAt Sha.Kt k + Sha.wAt ws k) % 4294967296) % 4294967296, r.e, r.f, r.g⟩ := by
  subst hr; rfl
theorem spliced (a b c d e f g N zb0 zmj rd : Nat) (x y : Int) (hx : x = ((N + zb0 + zmj) % 4294967296 : Nat)) (hy : y = ((rd + N) % 4294967296 : Nat)) :
    ((splice (i64V [0, 0, 0, 0, 0, 0, 0, 0]) 1 (i64V [a, b, c, d, e, f, g])).set 0 (.int .i64 x)).set 4 (.int .i64 y) = i64V [(N + zb0 + zmj) % 4294967296, a, b, c, (rd + N) % 4294967296, e, f, g] := by
  subst hx hy; rfl
theorem kt_lt (i : Nat) : Sha.wAt Sha.Kt i < 4294967296 := by
  unfold Sha.wAt
  rw [List.getD_eq_getElem?_getD]
  cases h : Sha.Kt[i]? with
  | none => simp
  | some x =>
    have hx : x ∈ Sha.Kt := List.mem_of_getElem? h
    have hall : ∀ y ∈ Sha.Kt, y < 4294967296 := by decide
    simpa using hall x hx
def z8 : List Nat := [0, 0, 0, 0, 0, 0, 0, 0]
theorem copied_src {w : World} {g : Nat} {r : Sha.St} (h : Blk w g 3 (i64V r.list)) : ∀ (j : Nat) (v : Value), (i64V [r.a, r.b, r.c, r.d, r.e, r.f, r.g])[j]? = some v → w.drew.cell? ((⟨g, 0, none⟩ : Addr).add j) = some v := by
  intro j v hj
  rw [Addr.add_mid, Nat.zero_add]
  refine h.drew.cell (take_at (n := 7) rfl hj)

/-- The first j of L, then noughts. -/
def filled (L : List Nat) (j : Nat) : List Nat := L.take j ++ List.replicate (L.length - j) 0
theorem filled_len (L : List Nat) (j : Nat) (hj : j ≤ L.length) : (filled L j).length = L.length := by simp [filled]; omega
theorem filled_all (L : List Nat) : filled L L.length = L := by simp [filled]
theorem i64V_new (l : List Nat) (n k : Nat) (hl : l.length = k) (hn : 0 < n) : (i64V (l ++ List.replicate n 0))[k]? = some (.int .i64 0) := by
  subst hl
  simp [i64V, hn]
theorem i64V_set (l : List Nat) (n k x : Nat) (hl : l.length = k) (hn : 0 < n) :
    (i64V (l ++ List.replicate n 0)).set k (.int .i64 (x : Int)) = i64V ((l ++ [x]) ++ List.replicate (n - 1) 0) := by
  subst hl
  obtain ⟨m, rfl⟩ : ∃ m, n = m + 1 := ⟨n - 1, by omega⟩
  simp [i64V, List.replicate_succ, List.set_append_right]
theorem filled_at (L : List Nat) (j : Nat) (hj : j < L.length) : (i64V (filled L j))[j]? = some (.int .i64 0) :=
  i64V_new _ _ _ (by simp; omega) (by omega)
theorem filled_set (L : List Nat) (j : Nat) (hj : j < L.length) : (i64V (filled L j)).set j (.int .i64 (Sha.wAt L j : Nat)) = i64V (filled L (j + 1)) := by
  have h := i64V_set (L.take j) (L.length - j) j (Sha.wAt L j) (by simp; omega) (by omega)
  have e : L.take j ++ [Sha.wAt L j] = L.take (j + 1) := by
    rw [List.take_succ_eq_append_getElem hj]
    simp [Sha.wAt, hj]
  rw [e, show L.length - j - 1 = L.length - (j + 1) by omega] at h
  exact h
theorem add_at (h r : Sha.St) (j : Nat) (hj : j < 8) : Sha.wAt (Sha.addSt h r).list j = (Sha.wAt h.list j + Sha.wAt r.list j) % 4294967296 :=
  match j, hj with
  | 0, _ => rfl
  | 1, _ => rfl
  | 2, _ => rfl
  | 3, _ => rfl
  | 4, _ => rfl
  | 5, _ => rfl
  | 6, _ => rfl
  | 7, _ => rfl
  | n + 8, h => absurd h (by omega)
theorem ok_at (h : Sha.St) (hh : h.ok) (j : Nat) (hj : j < 8) : Sha.wAt h.list j < 4294967296 :=
  match j, hj with
  | 0, _ => hh.a
  | 1, _ => hh.b
  | 2, _ => hh.c
  | 3, _ => hh.d
  | 4, _ => hh.e
  | 5, _ => hh.f
  | 6, _ => hh.g
  | 7, _ => hh.h
  | n + 8, h => absurd h (by omega)

set_option maxRecDepth 100000 in
set_option maxHeartbeats 2000000 in
theorem compress_any (st : Sha.St) (hv : Value) (hbase : Nat) (s : ByteArray) (w : World) (hs : s.size = 64) (hst : st.ok) (hown : w.ownsRow hbase 3 1 hv 8 (i64V st.list)) :
    Calls Tryz.prog 44 #[hv, .string s] w fun e w' => ∃ v, e = .returned v ∧ w'.ownsRow w.heap.size 3 1 v 8 (i64V (Sha.comp st s.data.toList).list) ∧ Below w.heap.size w w' := by
  obtain ⟨gh, caph, ch, rfl, hcaph, _, hBh, hlh, hth⟩ := own_blk hown (by omega)
  have hghl := hBh.lt
  have hmk := make8
  go_enter Tryz.func44, Tryz.ntmps44
  go_wp2_with fail
  refine (words_any s _ hs).mono ?_
  rintro e w1 ⟨vw, rfl, hownw, hbe1⟩
  obtain ⟨g1, cap1, cw, rfl, hcap1, hg1b, hB1, hlw, htw⟩ := own_blk hownw (by omega)
  have hws := Sha.wAt_sched_lt s.data.toList 64
  have hwl := Sha.sched_len s.data.toList 64
  have hcomp : Sha.comp st s.data.toList = Sha.addSt st (Sha.rnds (Sha.sched s.data.toList 64) st 64) := rfl
  generalize Sha.sched s.data.toList 64 = ws at *
  have HC := hide hcomp
  have HWL := hide hwl
  clear hcomp hwl hownw hown
  have hBh1 := hBh.below hbe1 hghl
  have hs1 := hbe1.size
  go_wp2_with (refine wpList_copy_splice rfl (.tmp 20) (.tmp 21) 24 24 rfl 3 Tryz.underlying24 infoInt1 _ _ _ _ _ _ rfl rfl w1.heap.size 0 (i64V z8) 3 ?_ (i64V st.list) ?_ ?_ ?_ (i64V_one _) w1.heap.size w1 ?_ (Nat.le_refl _) ?_; exact Blk.new rfl rfl; rfl; exact fun _ => ⟨rfl, _, rfl, fun j v hj => by rw [Addr.add_mid, Nat.zero_add]; exact (hBh1.alloc _).cell (take_at hth hj)⟩; exact Nat.le_refl 8; exact (Below.refl _ _).alloc (Nat.le_refl _) _; intro w2 HB2 hbe2)
  have hB2 : Blk w2 w1.heap.size 3 (i64V st.list) := HB2.out
  have hbw2 := hbe1.trans (hbe2.mono hs1)
  have hB12 := hB1.below hbe2 hB1.lt
  clear HB2
  go_loopw [6, 7] (fun v i wr => ∃ k gv : Nat, k ≤ 64 ∧ i = .int .i64 k ∧ v = .slice (some ⟨gv, 0, none⟩) 8 8 ∧ w.heap.size ≤ gv ∧ Blk wr gv 3 (i64V (Sha.rnds ws st k).list) ∧ Blk wr g1 3 cw ∧ Below w.heap.size w wr) (fun _ i _ => 64 - (intOf i).toNat)
  case atStart => exact ⟨0, w1.heap.size, by omega, rfl, rfl, hs1, hB2, hB12, hbw2⟩
  case round =>
    clear hB2 hbw2 hB12 hbe2 hbe1 hBh1 hs1 hB1
    obtain ⟨k, gv, hk, rfl, rfl, hgv, hBv, hBw, hbe⟩ := hrel
    have hrok := Sha.rnds_ok ws st k hst
    have hsz := hbe.size
    by_cases hlt : k < 64
    · have R := round_open st ws k _ rfl
      generalize Sha.rnds ws st k = r at *
      have HR := hide R
      clear R
      have hwk := i64V_at ws k (by rw [HWL.out]; omega)
      have HW0 := hide hwk
      clear hwk
      have cw0 := hBw.cell (take_at htw HW0.out)
      have hw0 := hws k
      have hk0 := kt_lt k
      have c0 := hBv.cell (i := 0) rfl
      have c1 := hBv.cell (i := 1) rfl
      have c2 := hBv.cell (i := 2) rfl
      have c3 := hBv.cell (i := 3) rfl
      have c4 := hBv.cell (i := 4) rfl
      have c5 := hBv.cell (i := 5) rfl
      have c6 := hBv.cell (i := 6) rfl
      have c7 := hBv.cell (i := 7) rfl
      have hra := hrok.a
      have hrd := hrok.d
      have hrh := hrok.h
      have y1 := Sha.b1_lt r.e hrok.e
      have y2 := Sha.ch_lt r.e r.f r.g hrok.e
      have y3 := Sha.b0_lt r.a hrok.a
      have y4 := Sha.maj_lt r.a r.b r.c hrok.a hrok.b
      have j64 : k < 64 := hlt
      have jc : (k : Int) < (64 : Int) := by omega
      go_wp2_with fail
      refine (refB1 r.e _ hrok.e).mono ?_
      rintro e w3 ⟨rfl, m1, rfl⟩
      go_wp2
      refine wp_letterW (fun w' => Blk w' gv 3 (i64V r.list) ∧ Blk w' g1 3 cw ∧ Below w.heap.size w w') ⟨hBv.drewN _, hBw.drewN _, below_drewN hbe _⟩ ?_
      clear hBv hBw hbe c0 c1 c2 c3 c4 c5 c6 c7 cw0 hsz
      rintro wr ⟨hBv, hBw, hbe⟩
      have c0 := hBv.cell (i := 0) rfl
      have c1 := hBv.cell (i := 1) rfl
      have c2 := hBv.cell (i := 2) rfl
      have c3 := hBv.cell (i := 3) rfl
      have c4 := hBv.cell (i := 4) rfl
      have c5 := hBv.cell (i := 5) rfl
      have c6 := hBv.cell (i := 6) rfl
      have c7 := hBv.cell (i := 7) rfl
      have cw0 := hBw.cell (take_at htw HW0.out)
      have hsz := hbe.size
      go_quiet ((go_at_call 102; exact Calls.quiet_of_same (refCh_any _ _ _ _ hrok.e hrok.f hrok.g)))
      go_wp2_with fail
      refine (refK_any k _ hlt).mono ?_
      rintro e w3 ⟨rfl, rfl⟩
      generalize Sha.b1 r.e = zb1 at *
      generalize Sha.ch r.e r.f r.g = zch at *
      generalize Sha.wAt Sha.Kt k = zk at *
      generalize Sha.wAt ws k = zw at *
      have t1 : IntKind.i64.wrap ((r.h : Int) + (zb1 : Int)) = (r.h : Int) + (zb1 : Int) := IntWalk.i64_in _ (by omega)
      have t2 : IntKind.i64.wrap ((r.h : Int) + (zb1 : Int) + (zch : Int)) = (r.h : Int) + (zb1 : Int) + (zch : Int) := IntWalk.i64_in _ (by omega)
      have t3 : IntKind.i64.wrap ((r.h : Int) + (zb1 : Int) + (zch : Int) + (zk : Int)) = (r.h : Int) + (zb1 : Int) + (zch : Int) + (zk : Int) := IntWalk.i64_in _ (by omega)
      have t4 : IntKind.i64.wrap ((r.h : Int) + (zb1 : Int) + (zch : Int) + (zk : Int) + (zw : Int)) = (r.h : Int) + (zb1 : Int) + (zch : Int) + (zk : Int) + (zw : Int) := IntWalk.i64_in _ (by omega)
      obtain ⟨N, hN⟩ : ∃ N, N = (r.h + zb1 + zch + zk + zw) % 4294967296 := ⟨_, rfl⟩
      have hNl : N < 4294967296 := by omega
      have t5 : ((r.h : Int) + (zb1 : Int) + (zch : Int) + (zk : Int) + (zw : Int)).tmod 4294967296 = (N : Int) := by rw [Int.tmod_eq_emod_of_nonneg (by omega)]; omega
      have t6 : IntKind.i64.wrap (N : Int) = (N : Int) := IntWalk.i64_in _ (by omega)
      have HN := hide hN
      clear hN
      go_wp2
      refine wp_letterW (fun w' => Blk w' gv 3 (i64V r.list) ∧ Blk w' g1 3 cw ∧ Below w.heap.size w w') ⟨hBv.drewN _, hBw.drewN _, below_drewN hbe _⟩ ?_
      clear hBv hBw hbe c0 c1 c2 c3 c4 c5 c6 c7 cw0 hsz
      rintro wr ⟨hBv, hBw, hbe⟩
      have c0 := hBv.cell (i := 0) rfl
      have c1 := hBv.cell (i := 1) rfl
      have c2 := hBv.cell (i := 2) rfl
      have c3 := hBv.cell (i := 3) rfl
      have c4 := hBv.cell (i := 4) rfl
      have c5 := hBv.cell (i := 5) rfl
      have c6 := hBv.cell (i := 6) rfl
      have c7 := hBv.cell (i := 7) rfl
      have cw0 := hBw.cell (take_at htw HW0.out)
      have hsz := hbe.size
      go_quiet (fail)
      clear t1 t2 t3 t4 t5 t6
      go_wp2_with fail
      refine (refB0 r.a _ hrok.a).mono ?_
      rintro e w3 ⟨rfl, m2, rfl⟩
      go_wp2
      refine wp_letterW (fun w' => Blk w' gv 3 (i64V r.list) ∧ Blk w' g1 3 cw ∧ Below w.heap.size w w') ⟨hBv.drewN _, hBw.drewN _, below_drewN hbe _⟩ ?_
      clear hBv hBw hbe c0 c1 c2 c3 c4 c5 c6 c7 cw0 hsz
      rintro wr ⟨hBv, hBw, hbe⟩
      have c0 := hBv.cell (i := 0) rfl
      have c1 := hBv.cell (i := 1) rfl
      have c2 := hBv.cell (i := 2) rfl
      have c3 := hBv.cell (i := 3) rfl
      have c4 := hBv.cell (i := 4) rfl
      have c5 := hBv.cell (i := 5) rfl
      have c6 := hBv.cell (i := 6) rfl
      have c7 := hBv.cell (i := 7) rfl
      have cw0 := hBw.cell (take_at htw HW0.out)
      have hsz := hbe.size
      go_quiet ((go_at_call 104; exact Calls.quiet_of_same (refMaj_any _ _ _ _ hrok.a hrok.b hrok.c)))
      generalize Sha.b0 r.a = zb0 at *
      generalize Sha.maj r.a r.b r.c = zmj at *
      go_wp2
      have hgvl := hBv.lt
      have hg1l := hBw.lt
      refine wp_letterW (fun w' => Blk w' gv 3 (i64V r.list) ∧ Blk w' g1 3 cw ∧ Blk w' wr.heap.size 3 (i64V z8) ∧ Below w.heap.size w w') ⟨(hBv.drewN _).alloc _, (hBw.drewN _).alloc _, Blk.new rfl rfl, (below_drewN hbe _).alloc hsz _⟩ ?_
      clear hBv hBw hbe c0 c1 c2 c3 c4 c5 c6 c7 cw0
      rintro wx ⟨hBv, hBw, hBn, hbe⟩
      go_region_law (refine step_copy_splice rfl (.tmp 74) (.tmp 76) 24 24 rfl 3 Tryz.underlying24 infoInt1 _ _ _ _ _ _ rfl rfl wr.heap.size 1 (i64V z8) 3 ?_ (i64V [r.a, r.b, r.c, r.d, r.e, r.f, r.g]) ?_ ?_ ?_ (i64V_one _) wr.heap.size wx.drew (Below.refl _ _) (Nat.le_refl _) ?_; exact hBn; rfl; exact fun _ => ⟨rfl, _, rfl, copied_src hBv⟩; exact Nat.le_refl 8; intro w5 HB5 hb5)
      have hBv5 := hBv.drew.below hb5 hgvl
      have hBw5 := hBw.drew.below hb5 hg1l
      have hBn5 : Blk w5 wr.heap.size 3 (splice (i64V z8) 1 (i64V [r.a, r.b, r.c, r.d, r.e, r.f, r.g])) := HB5.out
      have hbe5 := hbe.drew.trans (hb5.mono hsz)
      have c3 := hBv5.cell (i := 3) rfl
      have d0 := hBn5.cell (i := 0) rfl
      have d4 := hBn5.cell (i := 4) rfl
      have f0 := hBn5.frozen
      clear hBv hBw hBn hbe HB5 hb5
      go_wp2
      go_roundw
      case rel =>
        refine ⟨k + 1, wr.heap.size, by omega, by go_num, rfl, hsz, ?_, (hBw5.setCell_other _ _ (by simp; omega)).setCell_other _ _ (by simp; omega), (hbe5.setCell (by exact hsz) _).setCell (by exact hsz) _⟩
        have hfin := (hBn5.setCell_same 0 (.int .i64 (((N : Int) + (zb0 : Int) + (zmj : Int)) % 4294967296))).setCell_same 4 (.int .i64 (((r.d : Int) + (N : Int)) % 4294967296))
        rw [show i64V z8 = i64V [0, 0, 0, 0, 0, 0, 0, 0] from rfl, spliced r.a r.b r.c r.d r.e r.f r.g N zb0 zmj r.d _ _ (by omega) (by omega)] at hfin
        rw [HR.out, ← HN.out]
        exact hfin
      case measure => simp [intOf]; omega
    · have h64 : k = 64 := by omega
      rw [h64] at hBv hrok
      clear h64 hws hBw htw
      generalize Sha.rnds ws st 64 = r at *
      have hgvl := hBv.lt
      have n1 : gh ≠ wr.heap.size := by omega
      have n2 : gv ≠ wr.heap.size := by omega
      go_wp2
      go_loopw [16] (fun i w' => ∃ j : Nat, j ≤ 8 ∧ i = .int .i64 j ∧ Blk w' gv 3 (i64V r.list) ∧ Blk w' wr.heap.size 3 (i64V (filled (Sha.addSt st r).list j)) ∧ Below w.heap.size w w') (fun i _ => 8 - (intOf i).toNat)
      case atStart => exact ⟨0, by omega, rfl, hBv.alloc _, Blk.new rfl rfl, hbe.alloc hsz _⟩
      case round =>
        clear hBv hbe
        obtain ⟨j, hj, rfl, hBv, hBo, hbe⟩ := hrel
        by_cases hlt : j < 8
        · have a0 := add_at st r j hlt
          have o1 := ok_at st hst j hlt
          have o2 := ok_at r hrok j hlt
          have c0 := (hBh.below hbe hghl).cell (take_at hth (i64V_at st.list j hlt))
          have c1 := hBv.cell (i64V_at r.list j hlt)
          have c2 := hBo.cell (filled_at (Sha.addSt st r).list j hlt)
          have f0 := hBo.frozen j
          have hfin := hBo.setCell_same j (.int .i64 (Sha.wAt (Sha.addSt st r).list j : Nat))
          rw [filled_set (Sha.addSt st r).list j hlt] at hfin
          have jc : (j : Int) < 8 := by omega
          generalize Sha.wAt st.list j = xa at *
          generalize Sha.wAt r.list j = xb at *
          generalize Sha.wAt (Sha.addSt st r).list j = N at *
          have t1 : IntKind.i64.wrap ((xa : Int) + (xb : Int)) = (xa : Int) + (xb : Int) := IntWalk.i64_in _ (by omega)
          have t2 : ((xa : Int) + (xb : Int)).tmod 4294967296 = (N : Int) := by rw [Int.tmod_eq_emod_of_nonneg (by omega)]; omega
          have t3 : IntKind.i64.wrap (N : Int) = (N : Int) := IntWalk.i64_in _ (by omega)
          have HA := hide a0
          have HF := hide hfin
          clear a0 hfin
          go_wp2
          go_region_held3 (fun w' => w'.cell? ⟨gh, j, none⟩ = some (.int .i64 (xa : Nat)) ∧ w'.cell? ⟨gv, j, none⟩ = some (.int .i64 (xb : Nat))) (refine ⟨?_, ?_⟩ <;> first | assumption | (rw [cell_other _ _ _ _ (by assumption)]; assumption)) (fail)
          go_wp2
          go_roundw
          case rel => exact ⟨j + 1, by omega, by go_num, (hBv.setCell_other _ _ n2).drew, HF.out.drew, (hbe.setCell (by exact hsz) _).drew⟩
          case measure => simp [intOf]; omega
        · have h8 : j = 8 := by omega
          rw [h8] at hBo
          go_wp2
          go_ret
          refine ⟨_, rfl, ⟨rfl, .inr ⟨_, 8, (i64V (Sha.addSt st r).list).toArray, rfl, hsz, ?_, by omega, by decide, rfl, ?_⟩⟩, hbe⟩
          · have := hBo
            rw [show filled (Sha.addSt st r).list 8 = (Sha.addSt st r).list from filled_all _] at this
            exact this
          · rw [HC.out]; rfl
end Go.Proofs.YtfidnpchkfpoeaaGreatDoor
