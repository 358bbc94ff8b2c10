import Derived.Test.YtfidnpchkfpoeabDoorQ2
import Derived.Test.YtfidnpchkfpoeabDoorQM
namespace Go.Proofs.YtfidnpchkfpoeabDoor
open Go.RowKit

set_option maxHeartbeats 400000 in
theorem keepPick_any (c : Int) (n : Nat) (w : World) (h1 : -9223372036854775808 ≤ c) (h2 : c ≤ 9223372036854775807) (hn : 0 < n) (hn2 : n ≤ 1099511627776) :
    Calls Tryd.prog 26 #[.int .i64 c, .int .i64 (n : Nat)] w fun e w' => e = .returned (.int .i64 (pickN c n : Nat)) ∧ w' = w := by
  have z1 : ((n : Int) == 0) = false := beq_eq_false_iff_ne.2 (by omega)
  by_cases hc : c < 0
  · have hk : (-(c + 1)).tmod (n : Int) = ((((-(c + 1)).toNat % n : Nat)) : Int) := by
      rw [Int.tmod_eq_emod_of_nonneg (by omega), Int.natCast_emod, Int.toNat_of_nonneg (by omega)]
    have HK := hide hk
    clear hk
    go_enter Tryd.func26, Tryd.ntmps26
    go_wp2
    go_ret
    exact ⟨ret_int (by rw [← Int.neg_tmod, HK.out, pickN, if_pos (by omega)]), rfl⟩
  · have hk : c.tmod (n : Int) = (((c.toNat % n : Nat)) : Int) := by
      rw [Int.tmod_eq_emod_of_nonneg (by omega), Int.natCast_emod, Int.toNat_of_nonneg (by omega)]
    have he : c % (n : Int) = ((c.toNat % n : Nat) : Int) := by rw [Int.natCast_emod, Int.toNat_of_nonneg (by omega)]
    have HK := hide hk
    have HE := hide he
    clear hk he
    go_enter Tryd.func26, Tryd.ntmps26
    go_wp2
    go_ret
    exact ⟨ret_int (by rw [pickN, if_neg (by omega)]; first | exact HE.out | exact HK.out), rfl⟩

theorem set_take {xs cur : List Value} {m j : Nat} {u : Value} (h : cur.take m = xs) : (cur.set j u).take m = xs.set j u := by rw [List.take_set, h]
theorem Row.set1 {w : World} {base g cap n i : Nat} {xs : List Value} (h : Row w base 5 1 (.slice (some ⟨g, 0, none⟩) n cap) n xs) (u : Value) : Row (w.setCell ⟨g, i, none⟩ u) base 5 1 (.slice (some ⟨g, 0, none⟩) n cap) n (xs.set i u) := by
  obtain ⟨q1, q2⟩ := h
  refine ⟨by rw [List.length_set]; exact q1, ?_⟩
  rcases q2 with ⟨hn, _⟩ | ⟨g', cap', cur, hv', hb', hB, hc, hm, hcl, htk⟩
  · cases hn
  · injection hv' with hv1 hv2 hv3
    injection hv1 with hv1
    injection hv1 with hv1 _ _
    subst hv1
    subst hv3
    exact .inr ⟨g, cap, cur.set i u, rfl, hb', hB.setCell_same _ _, hc, hm, by rw [List.length_set]; exact hcl, set_take htk⟩

set_option maxRecDepth 100000 in
set_option maxHeartbeats 1600000 in
theorem changed_any (s : ByteArray) (p : Int) (c : UInt8) (w : World) (h1 : -9223372036854775808 ≤ p) (h2 : p ≤ 9223372036854775807) (hs0 : 0 < s.size) (hs : s.size ≤ 1099511627) :
    Calls Tryd.prog 18 #[.string s, .int .i64 p, .int .u8 ((c.toNat : Nat) : Int)] w fun e w' => ∃ r : ByteArray, e = .returned (.string r) ∧ r.size = s.size ∧ Below w.heap.size w w' := by
  have hcv := fun w : World => run_bytes_of_string (P := Tryd.prog) w 9 30 5 s Tryd.underlying9 Tryd.underlying30 Tryd.underlying5
  have hge := grownCap_ge w s.size 0 5
  have hle := grownCap_le_maxLen w s.size 0 5 (by unfold maxLen; omega)
  have hrow := row_bytes s w _ hge hle
  have hlen : s.data.toList.length = s.size := by rw [Array.length_toList]; rfl
  have hpk := pickN_lt p s.size hs0
  have HPK := hide (fun w => keepPick_any p s.size w h1 h2 hs0 (by omega))
  have hbe : Below w.heap.size w (w.drew.alloc (.cells (bytesRow s (grownCap w s.size 0 5)) 5 ((bytesRow s (grownCap w s.size 0 5)).size, (bytesRow s (grownCap w s.size 0 5)).size + 1))) := (Below.refl w.heap.size w).drew.alloc (Nat.le_refl _) _
  generalize hcape : grownCap w s.size 0 5 = cap at *
  generalize pickN p s.size = i at *
  obtain ⟨g, cap', cur, hv, _, hB, _, _, hcl, htk⟩ := hrow.open hs0
  injection hv with hv1 hv2 hv3
  injection hv1 with hv1
  injection hv1 with hv1 _ _
  subst hv1
  subst hv3
  have hx : s.data.toList[i]? = some (s.data.toList[i]'(by omega)) := List.getElem?_eq_getElem _
  have c0 : (w.drew.alloc (.cells (bytesRow s cap) 5 ((bytesRow s cap).size, (bytesRow s cap).size + 1))).cell? ⟨w.heap.size, i, none⟩ = some (.int .u8 (((s.data.toList[i]'(by omega)).toNat : Nat) : Int)) := hB.cell (take_at htk (by simp [u8L, hx]))
  have f0 : (w.drew.alloc (.cells (bytesRow s cap) 5 ((bytesRow s cap).size, (bytesRow s cap).size + 1))).frozen? ⟨w.heap.size, i, none⟩ = false := hB.frozen (by rw [hcl]; omega)
  have t1 := u8_xor (s.data.toList[i]'(by omega)) c
  have HR := hide (Row.set1 hrow (i := i) (.int .u8 ((((s.data.toList[i]'(by omega)) ^^^ c).toNat : Nat) : Int)))
  have hset : (u8L s.data.toList).set i (.int .u8 ((((s.data.toList[i]'(by omega)) ^^^ c).toNat : Nat) : Int)) = u8L (s.data.toList.set i ((s.data.toList[i]'(by omega)) ^^^ c)) := by unfold u8L; rw [List.map_set]
  rw [hset] at HR
  have hl2 : (s.data.toList.set i ((s.data.toList[i]'(by omega)) ^^^ c)).length = s.size := by rw [List.length_set]; exact hlen
  obtain ⟨ao, cp, hve, _, _, hcv2⟩ := Row.strAny HR.out
  obtain ⟨ao3, cp3, hve3, _, _, hcv3⟩ := Row.strAny HR.out.drew
  have HBE := hide hbe
  generalize s.data.toList.set i ((s.data.toList[i]'(by omega)) ^^^ c) = l2 at *
  generalize (s.data.toList[i]'(by omega)) ^^^ c = y at *
  generalize (s.data.toList[i]'(by omega)) = x at *
  clear hrow hB hcl htk hset hve hve3 HR hx hbe hlen
  unfold maxLen at hle
  have jn : (0 : Int) < (s.size : Int) := by omega
  have ji : (i : Int) < (s.size : Int) := by omega
  go_enter Tryd.func18, Tryd.ntmps18
  go_wp2_with fail
  refine (HPK.out _).mono ?_
  rintro e w2 ⟨rfl, hw2⟩
  have c2 : w2.cell? ⟨w.heap.size, i, none⟩ = some (.int .u8 ((x.toNat : Nat) : Int)) := by rw [hw2]; exact c0
  have f2 : w2.frozen? ⟨w.heap.size, i, none⟩ = false := by rw [hw2]; exact f0
  have hc2 : (convert 30 9 (.slice (some ⟨w.heap.size, 0, none⟩) s.size cap)).run Tryd.prog (w2.setCell ⟨w.heap.size, i, none⟩ (.int .u8 ((y.toNat : Nat) : Int))) = .ok (.string ⟨l2.toArray⟩) (w2.setCell ⟨w.heap.size, i, none⟩ (.int .u8 ((y.toNat : Nat) : Int))) := by rw [hw2]; exact hcv2
  have hc3 : (convert 30 9 (.slice (some ⟨w.heap.size, 0, none⟩) s.size cap)).run Tryd.prog (w2.setCell ⟨w.heap.size, i, none⟩ (.int .u8 ((y.toNat : Nat) : Int))).drew = .ok (.string ⟨l2.toArray⟩) (w2.setCell ⟨w.heap.size, i, none⟩ (.int .u8 ((y.toNat : Nat) : Int))).drew := by rw [hw2]; exact hcv3
  have HB2 := hide (show Below w.heap.size w w2 by rw [hw2]; exact HBE.out)
  clear HPK hw2 c0 f0 hcv2 hcv3 HBE hcv hcape
  go_wp2
  go_ret
  exact ⟨_, rfl, by rw [ba_size]; exact hl2, HB2.out.setCell (Nat.le_refl _) _⟩
end Go.Proofs.YtfidnpchkfpoeabDoor
