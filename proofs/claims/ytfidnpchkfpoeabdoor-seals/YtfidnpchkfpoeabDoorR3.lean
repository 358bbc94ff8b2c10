import Derived.Test.YtfidnpchkfpoeabDoorR2
import Derived.Test.YtfidnpchkfpoeabDoorRK
import Derived.Test.YtfidnpchkfpoeabDoorAct1
import Derived.Laws.CopyOwn
import Derived.Deep.RegionHeld3
namespace Go.Proofs.YtfidnpchkfpoeabDoor
open Go.RowKit

theorem own_blk {w : World} {base : Nat} {e : TypeId} {v : Value} {n : Nat} {xs : List Value} (h : w.ownsRow base e 1 v n xs) (hn : 0 < n) :
    ∃ g cap cur, v = .slice (some ⟨g, 0, none⟩) n cap ∧ n ≤ cap ∧ base ≤ g ∧ Blk w g e cur ∧ cur.length = cap ∧ cur.take n = xs := by
  rcases h.2 with ⟨_, h0⟩ | ⟨g, cap, cur, rfl, hb, hg, hc, _, hsz, ht⟩
  · omega
  · refine ⟨g, cap, cur.toList, rfl, hc, hb, ?_, by simpa using hsz, by simpa using ht⟩
    unfold Blk; simpa using hg
theorem take_at {cur xs : List Value} {n i : Nat} {v : Value} (h : cur.take n = xs) (hi : xs[i]? = some v) : cur[i]? = some v := by
  rw [← h, List.getElem?_take] at hi
  split at hi
  · exact hi
  · cases hi
theorem infoInt1 : (Tryd.prog.info? 3).map (·.size) = some 1 := by kernel_rfl

theorem round_open (s : Sha.St) (ws : List Nat) (k : Nat) (r : Sha.St) (hr : Sha.rnds ws s k = r) : Sha.rnds ws s (k + 1) =
    ⟨((r.h + Sha.b1 r.e + Sha.ch r.e r.f r.g + Sha.wAt Sha.Kt k + Sha.wAt ws k) % 4294967296 + Sha.b0 r.a + Sha.maj r.a r.b r.c) % 4294967296, r.a, r.b, r.c,
      (r.d + (r.h + Sha.b1 r.e + Sha.ch r.e r.f r.g + Sha.wAt Sha.Kt k + Sha.wAt ws k) % 4294967296) % 4294967296, r.e, r.f, r.g⟩ := by
  subst hr; rfl
theorem spliced (a b c d e f g N zb0 zmj rd : Nat) (x y : Int) (hx : x = ((N + zb0 + zmj) % 4294967296 : Nat)) (hy : y = ((rd + N) % 4294967296 : Nat)) :
    ((splice (i64V [0, 0, 0, 0, 0, 0, 0, 0]) 1 (i64V [a, b, c, d, e, f, g])).set 0 (.int .i64 x)).set 4 (.int .i64 y) = i64V [(N + zb0 + zmj) % 4294967296, a, b, c, (rd + N) % 4294967296, e, f, g] := by
  subst hx hy; rfl
theorem kt_lt (i : Nat) : Sha.wAt Sha.Kt i < 4294967296 := by
  unfold Sha.wAt
  rw [List.getD_eq_getElem?_getD]
  cases h : Sha.Kt[i]? with
  | none => simp
  | some x =>
    have hx : x ∈ Sha.Kt := List.mem_of_getElem? h
    have hall : ∀ y ∈ Sha.Kt, y < 4294967296 := by decide
    simpa using hall x hx
def z8 : List Nat := [0, 0, 0, 0, 0, 0, 0, 0]
theorem copied_src {w : World} {g : Nat} {r : Sha.St} (h : Blk w g 3 (i64V r.list)) : ∀ (j : Nat) (v : Value), (i64V [r.a, r.b, r.c, r.d, r.e, r.f, r.g])[j]? = some v → w.drew.cell? ((⟨g, 0, none⟩ : Addr).add j) = some v := by
  intro j v hj
  rw [Addr.add_mid, Nat.zero_add]
  refine h.drew.cell (take_at (n := 7) rfl hj)

/-- The first j of L, then noughts. -/
def filled (L : List Nat) (j : Nat) : List Nat := L.take j ++ List.replicate (L.length - j) 0
theorem filled_len (L : List Nat) (j : Nat) (hj : j ≤ L.length) : (filled L j).length = L.length := by simp [filled]; omega
theorem filled_all (L : List Nat) : filled L L.length = L := by simp [filled]
theorem i64V_new (l : List Nat) (n k : Nat) (hl : l.length = k) (hn : 0 < n) : (i64V (l ++ List.replicate n 0))[k]? = some (.int .i64 0) := by
  subst hl
  simp [i64V, hn]
theorem i64V_set (l : List Nat) (n k x : Nat) (hl : l.length = k) (hn : 0 < n) :
    (i64V (l ++ List.replicate n 0)).set k (.int .i64 (x : Int)) = i64V ((l ++ [x]) ++ List.replicate (n - 1) 0) := by
  subst hl
  obtain ⟨m, rfl⟩ : ∃ m, n = m + 1 := ⟨n - 1, by omega⟩
  simp [i64V, List.replicate_succ, List.set_append_right]
theorem filled_at (L : List Nat) (j : Nat) (hj : j < L.length) : (i64V (filled L j))[j]? = some (.int .i64 0) :=
  i64V_new _ _ _ (by simp; omega) (by omega)
theorem filled_set (L : List Nat) (j : Nat) (hj : j < L.length) : (i64V (filled L j)).set j (.int .i64 (Sha.wAt L j : Nat)) = i64V (filled L (j + 1)) := by
  have h := i64V_set (L.take j) (L.length - j) j (Sha.wAt L j) (by simp; omega) (by omega)
  have e : L.take j ++ [Sha.wAt L j] = L.take (j + 1) := by
    rw [List.take_succ_eq_append_getElem hj]
    simp [Sha.wAt, hj]
  rw [e, show L.length - j - 1 = L.length - (j + 1) by omega] at h
  exact h
theorem add_at (h r : Sha.St) (j : Nat) (hj : j < 8) : Sha.wAt (Sha.addSt h r).list j = (Sha.wAt h.list j + Sha.wAt r.list j) % 4294967296 :=
  match j, hj with
  | 0, _ => rfl
  | 1, _ => rfl
  | 2, _ => rfl
  | 3, _ => rfl
  | 4, _ => rfl
  | 5, _ => rfl
  | 6, _ => rfl
  | 7, _ => rfl
  | n + 8, h => absurd h (by omega)
theorem ok_at (h : Sha.St) (hh : h.ok) (j : Nat) (hj : j < 8) : Sha.wAt h.list j < 4294967296 :=
  match j, hj with
  | 0, _ => hh.a
  | 1, _ => hh.b
  | 2, _ => hh.c
  | 3, _ => hh.d
  | 4, _ => hh.e
  | 5, _ => hh.f
  | 6, _ => hh.g
  | 7, _ => hh.h
  | n + 8, h => absurd h (by omega)

end Go.Proofs.YtfidnpchkfpoeabDoor
