import Derived.Lib.AppendStr
import Derived.Test.YtpogfcfgbnccjaaGreatDoorMc5
namespace Go.Proofs.YtpogfcfgbnccjaaGreatDoor
open Go.RowKit

theorem MRep.lt' {w : World} {b : Nat} {t : TypeId} {key l : List UInt8} (h : MRep w b t key l) : b < w.heap.size := by
  obtain ⟨_, _, _, _, h, _⟩ := h
  exact h.lt
theorem blk_inj {w : World} {b : Nat} {t : TypeId} {c d : List Value} (h : Blk w b t c) (h' : Blk w b t d) : c = d := by
  unfold Blk at h h'
  rw [h] at h'
  injection h' with e
  injection e with e _ _
  exact congrArg Array.toList e
/-- The mac's two halves are one block. -/
theorem MRep.same {w : World} {b : Nat} {t : TypeId} {key l : List UInt8} (h : MRep w b t key l) : ∃ s k s' k', k.length = 64 ∧ k'.length = 64 ∧
    s = Sha.comps (padL key 0x36 ++ l) ((padL key 0x36 ++ l).length / 64) ∧ k.take ((padL key 0x36 ++ l).length % 64) = (padL key 0x36 ++ l).drop (64 * ((padL key 0x36 ++ l).length / 64)) ∧
    s' = Sha.comps (padL key 0x5c) ((padL key 0x5c).length / 64) ∧ k'.take ((padL key 0x5c).length % 64) = (padL key 0x5c).drop (64 * ((padL key 0x5c).length / 64)) ∧
    Blk w b t (hcells s k (padL key 0x36 ++ l).length ++ hcells s' k' (padL key 0x5c).length) := by
  obtain ⟨ci, co, h1, h2, ⟨k, hk, ht, hB⟩, ⟨k', hk', ht', hB'⟩⟩ := h
  refine ⟨_, k, _, k', hk, hk', rfl, ht, rfl, ht', ?_⟩
  have e : hcells (Sha.comps (padL key 0x36 ++ l) ((padL key 0x36 ++ l).length / 64)) k (padL key 0x36 ++ l).length ++ co = ci ++ hcells (Sha.comps (padL key 0x5c) ((padL key 0x5c).length / 64)) k' (padL key 0x5c).length := by
    simpa using blk_inj hB hB'
  have hl := List.append_inj e (by rw [hcells_len _ _ _ hk, h1])
  rw [← hl.2]
  simpa using hB

set_option maxRecDepth 100000 in
set_option maxHeartbeats 800000 in
theorem kwrite_any (b : Nat) (key l : List UInt8) (s : ByteArray) (w : World) (hn : l.length + s.size < 2 ^ 60) (hb : MRep w b 142 key l) (hk : KTab w) (h2 : 2 ≤ b) :
    Calls Tryz.prog 51 #[.pointer (some ⟨b, 0, none⟩), .string s] w fun e w' => e = .returned (.tuple #[]) ∧ MRep w' b 142 key (l ++ s.data.toList) ∧ w.grownBy w' (some b) := by
  obtain ⟨st, k, st', k', q1, q2, q3, q4, q5, q6, hB⟩ := hb.same
  have hpl := padL_len key 0x36
  have hr : HRep w b 142 [] (hcells st' k' (padL key 0x5c).length) (padL key 0x36 ++ l) := ⟨k, q1, q4, by rw [← q3]; simpa using hB⟩
  have HW := hide (hwrite_any b 142 [] (hcells st' k' (padL key 0x5c).length) (padL key 0x36 ++ l) s w (by rw [List.length_append, hpl]; omega) hr hk h2)
  have HF := hide (show ∀ w', HRep w' b 142 [] (hcells st' k' (padL key 0x5c).length) (padL key 0x36 ++ l ++ s.data.toList) → MRep w' b 142 key (l ++ s.data.toList) from fun w' h => by
    obtain ⟨kk, r1, r2, r3⟩ := h
    have hcl := hcells_len (Sha.comps (padL key 0x36 ++ l ++ s.data.toList) ((padL key 0x36 ++ l ++ s.data.toList).length / 64)) kk (padL key 0x36 ++ l ++ s.data.toList).length r1
    refine ⟨_, hcells st' k' (padL key 0x5c).length, hcl, hcells_len _ _ _ q2, ⟨kk, r1, by rw [← List.append_assoc]; exact r2, by rw [← List.append_assoc]; exact r3⟩, ⟨k', q2, q6, by rw [← q5]; simpa using r3⟩⟩)
  clear hb q1 q2 q3 q4 q5 q6 hB hpl hr hk
  go_enter Tryz.func51, Tryz.ntmps51
  go_wp2_with fail
  refine HW.out.mono ?_
  rintro e w1 ⟨rfl, h1, h3⟩
  have H1 := hide (HF.out _ h1)
  have H3 := hide h3
  clear h1 h3
  go_wp2
  go_end0
  exact ⟨rfl, H1.out, H3.out⟩

/-- The HMAC. -/
def macL (key l : List UInt8) : List UInt8 := Sha.sum (padL key 0x5c ++ Sha.sum (padL key 0x36 ++ l))
theorem macL_len (key l : List UInt8) : (macL key l).length = 32 := Sha.sum_len _

set_option maxRecDepth 100000 in
set_option maxHeartbeats 800000 in
theorem ksum_any (b : Nat) (key l : List UInt8) (w : World) (hn : l.length < 2 ^ 58) (hb : MRep w b 142 key l) (hk : KTab w) (h2 : 2 ≤ w.heap.size) :
    Calls Tryz.prog 52 #[.pointer (some ⟨b, 0, none⟩)] w fun e w' => e = .returned (.string ⟨(macL key l).toArray⟩) ∧ Below w.heap.size w w' := by
  have hbl := hb.lt'
  obtain ⟨ci, co, n1, n2, hr1, hr2⟩ := hb
  have hp1 := padL_len key 0x36
  have hp2 := padL_len key 0x5c
  have H1 := hide (hsum_any b 142 [] co (padL key 0x36 ++ l) w (by rw [List.length_append, hp1]; omega) hr1 hk h2)
  have hs1 := Sha.sum_len (padL key 0x36 ++ l)
  have hdef : macL key l = Sha.sum (padL key 0x5c ++ Sha.sum (padL key 0x36 ++ l)) := rfl
  generalize Sha.sum (padL key 0x36 ++ l) = hh at *
  obtain ⟨hs, hhs⟩ : ∃ hs : ByteArray, hs = ⟨hh.toArray⟩ := ⟨_, rfl⟩
  have hhl : hs.data.toList = hh := by rw [hhs]
  have hhz : hs.size = 32 := by rw [hhs]; show hh.toArray.size = 32; rw [List.size_toArray]; exact hs1
  rw [← hhs] at H1
  rw [← hhl] at hdef
  generalize padL key 0x5c = po at *
  have HD := hide hdef
  have HR2 := hide hr2
  have HP2 := hide hp2
  clear hr1 hr2 hp1 hp2 hs1 hhs hhl hdef n2
  go_enter Tryz.func52, Tryz.ntmps52
  go_wp2_with fail
  refine H1.out.mono ?_
  rintro e w1 ⟨rfl, hb1⟩
  have hcp := copy_any b 142 ci [] po w1 (HR2.out.below hb1 hbl)
  rw [n1] at hcp
  have HCP := hide hcp
  have hk1 := hk.below hb1 h2
  have h21 : 2 ≤ w1.heap.size := Nat.le_trans h2 hb1.size
  have HB1 := hide hb1
  clear hb1 hcp hk H1
  go_wp2_with fail
  refine HCP.out.mono ?_
  rintro e w2 ⟨rfl, hr, hb2⟩
  have hk2 := hk1.below hb2 h21
  have hl2 := hr.lt
  have HW := hide (hwrite_any w1.heap.size 135 [] [] po hs w2 (by rw [HP2.out, hhz]; decide) hr hk2 h21)
  have HB2 := hide (HB1.out.trans (hb2.mono HB1.out.size))
  have hge : w.heap.size ≤ w1.heap.size := HB1.out.size
  clear hr hb2 hk1 HCP HB1
  generalize w1.heap.size = nb at *
  go_wp2_with fail
  refine HW.out.mono ?_
  rintro e w3 ⟨rfl, hr3, hg3⟩
  have hb3 : Below w.heap.size w w3 := HB2.out.trans (RowKit.Below.of_grown hg3 hge (by omega))
  have hb23 : Below nb w2 w3 := RowKit.Below.of_grown hg3 (Nat.le_refl _) (by omega)
  have hk3 := hk2.below hb23 h21
  have hsz3 := hr3.lt
  have HS := hide (hsum_any nb 135 [] [] (po ++ hs.data.toList) w3 (by rw [List.length_append, HP2.out, Array.length_toList, show hs.data.size = hs.size from rfl, hhz]; decide) hr3 hk3 (by omega))
  rw [← HD.out] at HS
  have HB3 := hide hb3
  clear hr3 hg3 hb3 hb23 hk2 hk3 HB2 HW
  go_wp2_with fail
  refine HS.out.mono ?_
  rintro e w4 ⟨rfl, hb4⟩
  have HB4 := hide (HB3.out.trans (hb4.mono HB3.out.size))
  clear hb4
  go_wp2
  go_ret
  exact ⟨rfl, HB4.out⟩

set_option maxRecDepth 100000 in
set_option maxHeartbeats 800000 in
theorem hmac_any (key text : ByteArray) (w : World) (hkey : key.size < 2 ^ 57) (htext : text.size < 2 ^ 57) (hk : KTab w) (hH : HTab w) (h2 : 2 ≤ w.heap.size) :
    Calls Tryz.prog 24 #[.string key, .string text] w fun e w' => e = .returned (.string ⟨(macL key.data.toList text.data.toList).toArray⟩) ∧ Below w.heap.size w w' := by
  have H1 := hide (kbegin_any key w (by omega) hk hH h2)
  have htl : text.data.toList.length = text.size := by rw [Array.length_toList]; rfl
  have HTL := hide htl
  clear htl
  go_enter Tryz.func24, Tryz.ntmps24
  go_wp2_with fail
  refine H1.out.mono ?_
  rintro e w1 ⟨b, rfl, hge, hm1, hb1⟩
  have hk1 := hk.below hb1 h2
  have hl1 := hm1.lt'
  have HW := hide (kwrite_any b key.data.toList [] text w1 (by show 0 + text.size < 2 ^ 60; omega) hm1 hk1 (by omega))
  have HB1 := hide hb1
  clear hm1 hb1 hk hH H1
  go_wp2_with fail
  refine HW.out.mono ?_
  rintro e w2 ⟨rfl, hm2, hg2⟩
  rw [List.nil_append] at hm2
  have hb2 : Below w.heap.size w1 w2 := RowKit.Below.of_grown hg2 hge (by omega)
  have hk2 := hk1.below hb2 h2
  have hl2 := hm2.lt'
  have HS := hide (ksum_any b key.data.toList text.data.toList w2 (by rw [HTL.out]; omega) hm2 hk2 (by omega))
  have HB2 := hide (HB1.out.trans hb2)
  clear hm2 hg2 hb2 hk1 hk2 HW HB1
  go_wp2_with fail
  refine HS.out.mono ?_
  rintro e w3 ⟨rfl, hb3⟩
  have HB3 := hide (HB2.out.trans (hb3.mono HB2.out.size))
  clear hb3
  go_wp2
  go_ret
  exact ⟨rfl, HB3.out⟩
set_option maxHeartbeats 800000 in
theorem extract_any (key text : ByteArray) (w : World) (hkey : key.size < 2 ^ 57) (htext : text.size < 2 ^ 57) (hk : KTab w) (hH : HTab w) (h2 : 2 ≤ w.heap.size) :
    Calls Tryz.prog 26 #[.string key, .string text] w fun e w' => e = .returned (.string ⟨(macL key.data.toList text.data.toList).toArray⟩) ∧ Below w.heap.size w w' := by
  have H1 := hide (hmac_any key text w hkey htext hk hH h2)
  clear hk hH
  go_enter Tryz.func26, Tryz.ntmps26
  go_wp2_with fail
  refine H1.out.mono ?_
  rintro e w1 ⟨rfl, hb1⟩
  have HB1 := hide hb1
  clear hb1
  go_wp2
  go_ret
  exact ⟨rfl, HB1.out⟩

theorem ba_app2 (l : List UInt8) (s : ByteArray) : ((⟨l.toArray⟩ : ByteArray) ++ s).data.toList = l ++ s.data.toList := by
  simp [ByteArray.data_append]
theorem ba_size (l : List UInt8) : (⟨l.toArray⟩ : ByteArray).size = l.length := List.size_toArray

set_option maxRecDepth 100000 in
set_option maxHeartbeats 800000 in
theorem refHmac_any (key text : ByteArray) (w : World) (hkey : key.size ≤ 1090000000) (htext : text.size ≤ 1090000000) :
    Calls Tryz.prog 25 #[.string key, .string text] w fun e w' => e = .returned (.string ⟨(macL key.data.toList text.data.toList).toArray⟩) ∧ Below w.heap.size w w' := by
  have hp1 := padL_len key.data.toList 0x36
  have hp2 := padL_len key.data.toList 0x5c
  have P1 := hide (fun w => padK_any key 0x36 w (by omega))
  have P2 := hide (fun w => padK_any key 0x5c w (by omega))
  have hdef : macL key.data.toList text.data.toList = Sha.sum (padL key.data.toList 0x5c ++ Sha.sum (padL key.data.toList 0x36 ++ text.data.toList)) := rfl
  generalize padL key.data.toList 0x36 = pi at *
  generalize padL key.data.toList 0x5c = po at *
  obtain ⟨si, hsi⟩ : ∃ si : ByteArray, si = ⟨pi.toArray⟩ := ⟨_, rfl⟩
  obtain ⟨so, hso⟩ : ∃ so : ByteArray, so = ⟨po.toArray⟩ := ⟨_, rfl⟩
  rw [← hsi] at P1
  rw [← hso] at P2
  have zi : si.size = 64 := by rw [hsi, ba_size, hp1]
  have zo : so.size = 64 := by rw [hso, ba_size, hp2]
  have li : (si ++ text).data.toList = pi ++ text.data.toList := by rw [hsi]; exact ba_app2 _ _
  have Z1 : (si ++ text).size ≤ 1099511627 := by
    show (si ++ text).data.size ≤ _
    rw [← Array.length_toList, li, List.length_append, hp1, Array.length_toList]
    show 64 + text.size ≤ _
    omega
  have S1 := hide (fun w => refSum_any (si ++ text) w Z1)
  rw [li] at S1
  have hs1 := Sha.sum_len (pi ++ text.data.toList)
  generalize Sha.sum (pi ++ text.data.toList) = hh at *
  obtain ⟨sh, hsh⟩ : ∃ sh : ByteArray, sh = ⟨hh.toArray⟩ := ⟨_, rfl⟩
  rw [← hsh] at S1
  have zh : sh.size = 32 := by rw [hsh, ba_size, hs1]
  have lo : (so ++ sh).data.toList = po ++ hh := by rw [hso, hsh]; exact ba_app2 _ _
  have Z2 : (so ++ sh).size ≤ 1099511627 := by
    show (so ++ sh).data.size ≤ _
    rw [← Array.length_toList, lo, List.length_append, hp2, hs1]
    decide
  have S2 := hide (fun w => refSum_any (so ++ sh) w Z2)
  rw [lo, ← hdef] at S2
  have j1 : ¬ 9223372036854775807 < si.size + text.size := by omega
  have j2 : ¬ 9223372036854775807 < so.size + sh.size := by omega
  clear hp1 hp2 hdef hsi hso hsh li lo hs1 Z1 Z2 zi zo zh
  go_enter Tryz.func25, Tryz.ntmps25
  go_wp2_with fail
  refine (P1.out _).mono ?_
  rintro e w1 ⟨rfl, hb1⟩
  have HB1 := hide hb1
  clear hb1 P1
  go_wp2_with fail
  refine (P2.out _).mono ?_
  rintro e w2 ⟨rfl, hb2⟩
  have HB2 := hide (HB1.out.trans (hb2.mono HB1.out.size))
  clear hb2 P2 HB1
  go_wp2_with fail
  refine (S1.out _).mono ?_
  rintro e w3 ⟨rfl, hb3⟩
  have HB3 := hide (HB2.out.trans (hb3.mono HB2.out.size))
  clear hb3 S1 HB2
  go_wp2_with fail
  refine (S2.out _).mono ?_
  rintro e w4 ⟨rfl, hb4⟩
  have HB4 := hide (HB3.out.trans (hb4.mono HB3.out.size))
  clear hb4 S2 HB3
  go_wp2
  go_ret
  exact ⟨rfl, HB4.out⟩
end Go.Proofs.YtpogfcfgbnccjaaGreatDoor
namespace Go.Proofs.YtpogfcfgbnccjaaGreatDoor
open Go.RowKit

theorem flat_three {α : Type} (f : α → List Value) (hf : ∀ x, (f x).length = 3) : ∀ (l : List α) (i j : Nat) (x : α), l[i]? = some x → j < 3 → (l.flatMap f)[i * 3 + j]? = (f x)[j]?
  | [], i, j, x, h, _ => by simp at h
  | a :: r, 0, j, x, h, hj => by
    simp at h; subst h
    rw [List.flatMap_cons, Nat.zero_mul, Nat.zero_add, List.getElem?_append_left (by rw [hf]; exact hj)]
  | a :: r, i + 1, j, x, h, hj => by
    rw [List.flatMap_cons, List.getElem?_append_right (by rw [hf]; omega), hf, show (i + 1) * 3 + j - 3 = i * 3 + j by omega]
    exact flat_three f hf r i j x (by simpa using h) hj
theorem flat_three_set {α : Type} (f : α → List Value) (hf : ∀ x, (f x).length = 3) : ∀ (l : List α) (i : Nat) (x y : α) (u : Value), l[i]? = some x → f y = (f x).set 2 u → (l.set i y).flatMap f = (l.flatMap f).set (i * 3 + 2) u
  | [], i, x, y, u, h, _ => by simp at h
  | a :: r, 0, x, y, u, h, hy => by
    simp at h; subst h
    rw [List.set_cons_zero, List.flatMap_cons, List.flatMap_cons, Nat.zero_mul, Nat.zero_add, List.set_append_left _ _ (by rw [hf]; omega), hy]
  | a :: r, i + 1, x, y, u, h, hy => by
    rw [List.set_cons_succ, List.flatMap_cons, List.flatMap_cons, List.set_append_right _ _ (by rw [hf]; omega), hf, show (i + 1) * 3 + 2 - 3 = i * 3 + 2 by omega, flat_three_set f hf r i x y u (by simpa using h) hy]
theorem RowT.cells3 {α : Type} {T : Tags} {w : World} {c : Nat × Nat} {e : TypeId} {v : Value} {l : List α} {f : α → List Value} (hf : ∀ x, (f x).length = 3) (h : RowT T w c e 3 v l.length (l.flatMap f)) (hn : 0 < l.length) :
    ∃ g cap, v = .slice (some ⟨g, 0, none⟩) l.length cap ∧ l.length ≤ cap ∧ cap ≤ maxLen ∧ T g = c ∧ g < w.heap.size ∧ (∀ i, i < l.length * 3 → w.frozen? ⟨g, i, none⟩ = false) ∧ ∀ i x, l[i]? = some x → ∀ j u, (f x)[j]? = some u → w.cell? ⟨g, i * 3 + j, none⟩ = some u := by
  obtain ⟨g, cap, cur, rfl, _, hB, hc, hm, hcl, htk⟩ := h.1.open hn
  refine ⟨g, cap, rfl, hc, hm, h.2 g rfl, hB.lt, fun i hi => hB.frozen (by omega), fun i x hx j u hu => hB.cell (take_at htk ?_)⟩
  rw [flat_three f hf l i j x hx (by have := (List.getElem?_eq_some_iff.1 hu).1; rw [hf] at this; exact this)]
  exact hu
theorem maV_len (x : MacR) : (maV x).length = 3 := rfl
theorem infoMa : (Tryz.prog.info? 73).map (fun i => (i.zero, i.size, i.bytes)) = some (some (.agg #[.pointer none, .string ⟨#[]⟩, .string ⟨#[]⟩]), 3, 40) := by kernel_rfl
theorem infoMaSz : (Tryz.prog.info? 73).map (·.size) = some 3 := by kernel_rfl
theorem info3 (u v x : Value) : (Tryz.prog.info? 73).map (·.size) = some (#[u, v, x] : Array Value).size := infoMaSz
theorem one3 (a : Option Addr) (s t : ByteArray) : (#[.pointer a, .string s, .string t] : Array Value).all (·.oneCell') = true := by simp [Value.oneCell']
theorem new_three0 {w : World} {t : TypeId} {a b c : Value} : (w.drew.alloc (.cells #[a, b, c] t)).cell? ⟨w.heap.size, 0, none⟩ = some a := World.cell?_alloc_at _ _ _ _ rfl
theorem new_three1 {w : World} {t : TypeId} {a b c : Value} : (w.drew.alloc (.cells #[a, b, c] t)).cell? ⟨w.heap.size, 1, none⟩ = some b := World.cell?_alloc_at _ _ _ _ rfl
theorem new_three2 {w : World} {t : TypeId} {a b c : Value} : (w.drew.alloc (.cells #[a, b, c] t)).cell? ⟨w.heap.size, 2, none⟩ = some c := World.cell?_alloc_at _ _ _ _ rfl
theorem step_append_three (e t : TypeId) (z : Value) (bytes : Nat) (hinfo : (Tryz.prog.info? e).map (fun i => (i.zero, i.size, i.bytes)) = some (some z, 3, bytes)) (hu : Tryz.prog.underlying t = some (.slice e)) (hz : z.cells.size = 3) (hby : bytes ≤ 64)
    {ops : Array Oper} {o : Oper} {a : Act} {w : World} {K : Act → World → Prop} {Q : Exit → Act → World → Prop} {E : Prop} (hgd : o.guard = none) (s x : Operand)
    (ho : o.op = .call { callee := .builtin .append, args := #[s, x], argTypes := #[t, t] })
    (v : Value) (n : Nat) (xs : List Value) (hs : a.eval s = v) (hown : Row w 0 e 3 v n xs)
    (g : Nat) (y1 y2 y3 : Value) (hx : a.eval x = .slice (some ⟨g, 0, none⟩) 1 1) (h1 : y1.oneCell' = true) (h2 : y2.oneCell' = true) (h3 : y3.oneCell' = true) (hn1 : w.cell? ⟨g, 0, none⟩ = some y1) (hn2 : w.cell? ⟨g, 1, none⟩ = some y2) (hn3 : w.cell? ⟨g, 2, none⟩ = some y3) (hn : n ≤ 1099511627)
    (h : ∀ v' w', Row w' 0 e 3 v' (n + 1) (xs ++ [y1, y2, y3]) → w.grownBy w' v.ownBlock → (v'.ownBlock = v.ownBlock ∨ ∃ g, v'.ownBlock = some g ∧ w.heap.size ≤ g) → K (a.put o.dst v') w') :
    if Region.wanted o (yielded ops a.tmps) = true then Oper.wp Tryz.prog o a w K Q else E := by
  rw [if_pos (by simp [Region.wanted, hgd])]
  obtain ⟨i0, hi, hz0, hz1, hz2⟩ := info_parts hinfo
  refine wp_append_row s x t ho i0 z bytes hu hi hz0 hz1 hz2 hz (by decide) v n xs hs hown ⟨g, 0, none⟩ 1 1 [y1, y2, y3] hx rfl ?_ ?_ ?_ ?_ (Nat.zero_le _) h
  · intro j u hj
    match j, hj with
    | 0, hj => simp at hj; subst hj; rw [Addr.add_mid]; exact hn1
    | 1, hj => simp at hj; subst hj; rw [Addr.add_mid]; exact hn2
    | 2, hj => simp at hj; subst hj; rw [Addr.add_mid]; exact hn3
  · intro u hu'
    simp at hu'
    rcases hu' with rfl | rfl | rfl
    · exact h1
    · exact h2
    · exact h3
  · unfold maxLen; omega
  · have : (n + 1) * bytes ≤ (n + 1) * 64 := Nat.mul_le_mul_left _ hby
    omega

/-- One mac more. -/
theorem Inv.addMa {T : Tags} {base B M M' : Nat} {σ : Sig} {w w1 : World} (h : Inv T base B M σ w) (hM : M < M') (hM2 : M' ≤ 1073741824) (x : MacR) (hx : MRep w x.b 142 x.key.data.toList x.l) (hT : T x.b = (33, σ.ma.length)) (hl : x.l.length ≤ M') (hkz : x.key.size ≤ M' + 65536)
    (o : Obj) (v' : Value) (hg : (w.alloc o).grownBy w1 σ.vma.ownBlock) (hr : Row w1 0 73 3 v' (σ.ma.length + 1) ((σ.ma.flatMap maV) ++ maV x)) (hat : v'.ownBlock = σ.vma.ownBlock ∨ ∃ g, v'.ownBlock = some g ∧ (w.alloc o).heap.size ≤ g) :
    ∃ T', Inv T' base B M' { σ with vma := v', ma := σ.ma ++ [x] } (w1.setCell ⟨B, 7, none⟩ v') ∧ Below base w (w1.setCell ⟨B, 7, none⟩ v') := by
  obtain ⟨q1, q2, q3⟩ := append_field (f := 7) h.hw h.rma (by decide) hg hr hat
  refine ⟨fresh T w (2, 7), h.uma (Nat.le_of_lt hM) v' (σ.ma ++ [x]) (q1.mono (by intro c hc; rcases hc with h | h <;> simp [h])) q2 ?_ ?_ ?_ ?_, q1.below h.bsz h.old (by simp)⟩
  · have : (σ.ma ++ [x]).flatMap maV = (σ.ma.flatMap maV) ++ maV x := by simp [List.flatMap_append]
    rw [this]
    simpa using q3
  · intro i p hp
    by_cases hi : i < σ.ma.length
    · rw [List.getElem?_append_left hi] at hp
      obtain ⟨a1, a2, a3, a4⟩ := h.ma i p hp
      exact ⟨a1.stays q1 a2 (by simp), (q1.tag _ a1.lt).trans a2, by omega, by omega⟩
    · have hi2 : i = σ.ma.length := by
        have := (List.getElem?_eq_some_iff.1 hp).1
        simp at this; omega
      subst hi2
      simp at hp
      subst hp
      exact ⟨hx.stays q1 hT (by simp), (q1.tag _ hx.lt).trans hT, hl, hkz⟩
  · have := h.bound; simp; omega
  · obtain ⟨z1, z2, z3, z4, z5, z6⟩ := h.sizes
    exact ⟨fun x hx => by have := z1 x hx; omega, fun x hx => by have := z2 x hx; omega, fun p hp => ⟨by have := (z3 p hp).1; omega, fun x hx => by have := (z3 p hp).2 x hx; omega⟩, by show σ.file.size ≤ _; omega, by show σ.key.size ≤ _; omega, by show σ.nonce.size ≤ _; omega⟩

set_option maxRecDepth 100000 in
set_option maxHeartbeats 1600000 in
theorem macked_35 {T : Tags} {base B M M' : Nat} {σ : Sig} {w : World} (h : Inv T base B M σ w) (o : OpR) (hk : o.kind = 35) (hM : M < M') (hM2 : M' ≤ 1073741824) :
    Calls Tryz.prog 35 #[.pointer (some ⟨B, 0, none⟩), opV o] w fun e w' => e = .returned (.bool true) ∧ Done base B M' w w' := by
  have z : (o.kind == 35) = true := beq_iff_eq.2 hk
  have hb0 : Below w.heap.size w (w.alloc (.cells #[.int .i64 o.kind, .int .i64 o.a, .int .i64 o.b, .int .i64 o.c, .string o.s, .string o.t] 29)) := (Below.refl _ _).alloc (Nat.le_refl _) _
  have hA := h.below hb0
  have c12 := hA.hw.1.cell (i := 12) rfl
  have hkz := hA.sizes.2.2.2.2.1
  have hMb := hA.bound.1
  unfold opV
  have HA := hide hA
  have HB := hide hb0
  have H := hide h
  clear hA hb0 h hk
  go_enter Tryz.func35, Tryz.ntmps35
  go_wp2_with fail
  refine (kbegin_any σ.key _ (by omega) HA.out.kt HA.out.ht (Nat.le_trans HA.out.two HA.out.bsz)).mono ?_
  rintro e w2 ⟨b, rfl, hge, hm2, hb2⟩
  have hI2 := HA.out.same (Nat.le_refl _) HA.out.bound.1 (Stays.of_below (33, σ.ma.length) hb2)
  have htg := fresh_new (fresh T w (9, 9)) (w.alloc (.cells #[.int .i64 o.kind, .int .i64 o.a, .int .i64 o.b, .int .i64 o.c, .string o.s, .string o.t] 29)) (33, σ.ma.length) b hge
  have hbw : Below base w w2 := (HB.out.trans (hb2.mono (by simp))).mono H.out.bsz
  generalize fresh (fresh T w (9, 9)) _ (33, σ.ma.length) = T2 at *
  have c7 := hI2.hw.1.cell (i := 7) rfl
  have c12b := hI2.hw.1.cell (i := 12) rfl
  have hlen := hI2.bound.2.2.2.2.2.2.2.2.1
  have key := fun (w1 : World) (o : Obj) (hg : (w2.drew.alloc o).grownBy w1 σ.vma.ownBlock) => (hI2.drew.hw.1.alloc o).grown hg (fun e => absurd (hI2.rma.2 B e.symm) (by rw [hI2.hw.2]; decide))
  have HK := hide key
  have HROW := hide hI2.rma.1
  have HI := hide hI2
  have HR := hide hm2
  have HTG := hide htg
  have HBW := hide hbw
  clear key hI2 HA HB H hb2 hm2 htg hbw c12 hge
  have c7a : (w2.alloc (.cells #[.pointer (some ⟨b, 0, none⟩), .string σ.key, .string ⟨#[]⟩] 73)).cell? ⟨B, 7, none⟩ = some σ.vma := World.cell?_alloc_later w2 _ _ c7
  go_wp2
  go_region_law (refine step_append_three 73 38 _ 40 infoMa Tryz.underlying38 rfl (by decide) rfl (.tmp 22) (.tmp 29) rfl _ σ.ma.length _ rfl (HROW.out.drew.alloc _) w2.heap.size _ _ _ rfl ?_ ?_ ?_ new_three0 new_three1 new_three2 ?_ ?_; rfl; rfl; rfl; omega; intro v1 w1 hr1 hg1 hat1; obtain ⟨g9, cap9, cur9, rfl, _⟩ := hr1.open (Nat.succ_pos _); have b1 := HK.out w1 _ hg1; have d7 := b1.cell (i := 7) rfl; have f1 := b1.frozen)
  all_goals
    go_wp2
    go_ret
    refine ⟨rfl, ?_⟩
    obtain ⟨T', h1, h2⟩ := HI.out.drew.addMa hM hM2 ⟨b, σ.key, []⟩ HR.out HTG.out (Nat.zero_le _) (by show σ.key.size ≤ _; omega) _ _ hg1 hr1 hat1
    exact ⟨T', _, h1, HBW.out.trans ⟨h2.os, h2.tape, h2.output, h2.size, h2.block⟩⟩

set_option maxRecDepth 100000 in
set_option maxHeartbeats 1600000 in
theorem macked_none {T : Tags} {base B M : Nat} {σ : Sig} {w : World} (h : Inv T base B M σ w) (o : OpR) (hk : o.kind ≠ 35) (h0 : σ.ma.length = 0) :
    Calls Tryz.prog 35 #[.pointer (some ⟨B, 0, none⟩), opV o] w fun e w' => e = .returned (.bool true) ∧ Done base B M w w' := by
  have z : (o.kind == 35) = false := beq_eq_false_iff_ne.2 hk
  have hb0 : Below w.heap.size w (w.alloc (.cells #[.int .i64 o.kind, .int .i64 o.a, .int .i64 o.b, .int .i64 o.c, .string o.s, .string o.t] 29)) := (Below.refl _ _).alloc (Nat.le_refl _) _
  have hA := h.below hb0
  obtain ⟨ao, cap, hv, hcap⟩ := hA.rma.zero
  have c7 := hA.hw.1.cell (i := 7) rfl
  rw [hv, h0] at c7
  unfold opV
  have HA := hide hA
  have HB := hide hb0
  have H := hide h
  clear hA hb0 h hk hv
  go_enter Tryz.func35, Tryz.ntmps35
  go_wp2
  go_ret
  exact ⟨rfl, _, σ, HA.out, HB.out.mono H.out.bsz⟩

/-- Where the step on a mac stands, once the mac is picked: its copy lies in block nb, the step in block sb. -/
structure MaAt (T : Tags) (base B M : Nat) (σ : Sig) (w : World) (o : OpR) (g n cap pk sb nb : Nat) (p : MacR) (w3 : World) : Prop where
  inv : Inv T base B M σ w3
  bel : Below w.heap.size w w3
  c6 : w3.cell? ⟨B, 7, none⟩ = some (.slice (some ⟨g, 0, none⟩) n cap)
  e0 : w3.cell? ⟨sb, 0, none⟩ = some (.int .i64 o.kind)
  e4 : w3.cell? ⟨sb, 4, none⟩ = some (.string o.s)
  p0 : w3.cell? ⟨nb, 0, none⟩ = some (.pointer (some ⟨p.b, 0, none⟩))
  pk : w3.cell? ⟨nb, 1, none⟩ = some (.string p.key)
  p1 : w3.cell? ⟨nb, 2, none⟩ = some (.string ⟨p.l.toArray⟩)
  tsb : T sb = (9, 9)
  tnb : T nb = (9, 9)
  lsb : sb < w3.heap.size
  lnb : nb < w3.heap.size
end Go.Proofs.YtpogfcfgbnccjaaGreatDoor
namespace Go.Proofs.YtpogfcfgbnccjaaGreatDoor
open Go.RowKit

/-- A mac has taken what it was given, and so was what the law keeps of it. -/
theorem Inv.setMa {T : Tags} {base B M M' : Nat} {σ : Sig} {w w4 : World} (h : Inv T base B M σ w) (hM : M ≤ M') (hM2 : M' ≤ 1073741824) {k : Nat} {p : MacR} (hp : σ.ma[k]? = some p) (l' : List UInt8) (hl : l'.length ≤ M')
    (hg4 : w.grownBy w4 (some p.b)) (hr4 : MRep w4 p.b 142 p.key.data.toList l') {g n cap : Nat} (hv : σ.vma = .slice (some ⟨g, 0, none⟩) n cap) :
    Done base B M' w (w4.setCell ⟨g, k * 3 + 2, none⟩ (.string ⟨l'.toArray⟩)) := by
  have hkl := (List.getElem?_eq_some_iff.1 hp).1
  obtain ⟨hp1, hp2, hp3, hp4⟩ := h.ma k p hp
  have hTg : T g = (2, 7) := h.rma.2 g (by rw [hv]; rfl)
  have hBb : B ≠ p.b := tag_ne h.hw.2 hp2 (by simp)
  have hBg : B ≠ g := tag_ne h.hw.2 hTg (by simp)
  have hgb : g ≠ p.b := tag_ne hTg hp2 (by simp)
  have hs : Stays T (fresh T w (9, 9)) w (w4.setCell ⟨g, k * 3 + 2, none⟩ (.string ⟨l'.toArray⟩)) (fun c => c = (2, 7) ∨ c = (33, k)) := by
    refine ⟨hg4.os, hg4.tape, hg4.output, ?_, fun j hj => fresh_old _ _ _ j hj, fun j hj hn => ?_⟩
    · show w.heap.size ≤ (w4.heap.modify _ _).size
      have := hg4.size; simp; omega
    · have h1 : j ≠ g := fun e => hn (.inl (by rw [e]; exact hTg))
      have h2 : j ≠ p.b := fun e => hn (.inr (by rw [e]; exact hp2))
      rw [Below.heap_setCell w4 ⟨g, k * 3 + 2, none⟩ _ j h1]
      exact hg4.block j hj (fun e => h2 (Option.some.inj e))
  refine ⟨fresh T w (9, 9), { σ with vma := σ.vma, ma := σ.ma.set k ⟨p.b, p.key, l'⟩ }, h.uma hM σ.vma (σ.ma.set k ⟨p.b, p.key, l'⟩) (hs.mono (by intro c hc; rcases hc with h | h <;> simp [h])) (h.hw.stays hs (by simp)) ?_ ?_ ?_ ?_, hs.below h.bsz h.old (by simp)⟩
  · have e : (σ.ma.set k ⟨p.b, p.key, l'⟩).flatMap maV = (σ.ma.flatMap maV).set (k * 3 + 2) (.string ⟨l'.toArray⟩) := flat_three_set maV maV_len σ.ma k p ⟨p.b, p.key, l'⟩ _ hp rfl
    rw [e, List.length_set]
    obtain ⟨⟨q1, q2⟩, q3⟩ := h.rma
    refine ⟨⟨by rw [List.length_set]; exact q1, ?_⟩, ?_⟩
    · rcases q2 with ⟨hn, _⟩ | ⟨g', cap', cur, hv', hb', hB, hc, hm, hcl, htk⟩
      · rw [hv] at hn; cases hn
      · rw [hv] at hv'
        injection hv' with hv1 hv2 hv3
        injection hv1 with hv1
        injection hv1 with hv1 _ _
        subst hv1
        refine .inr ⟨g, cap', cur.set (k * 3 + 2) (.string ⟨l'.toArray⟩), ?_, hb', (hB.grown hg4 (fun e => hgb (Option.some.inj e))).setCell_same _ _, hc, hm, by rw [List.length_set]; exact hcl, take_set htk⟩
        rw [hv, hv2, hv3]
    · intro g' hg'
      have e := q3 g' hg'
      have hl : g' < w.heap.size := ((show Row w 0 _ _ _ _ _ from ⟨q1, q2⟩).lt g' hg').2
      rw [fresh_old _ _ _ _ hl]; exact e
  · intro i p' hp'
    by_cases hik : i = k
    · subst hik
      rw [List.getElem?_set_self hkl] at hp'
      obtain rfl := Option.some.inj hp'
      refine ⟨?_, by show fresh T w (9, 9) p.b = _; rw [fresh_old _ _ _ _ hp1.lt]; exact hp2, hl, by show p.key.size ≤ _; omega⟩
      obtain ⟨ci, co, y1, y2, ⟨b1, a1, a2, a3⟩, ⟨b2, a4, a5, a6⟩⟩ := hr4
      exact ⟨ci, co, y1, y2, ⟨b1, a1, a2, a3.setCell_other _ _ (fun e => hgb e.symm)⟩, ⟨b2, a4, a5, a6.setCell_other _ _ (fun e => hgb e.symm)⟩⟩
    · rw [List.getElem?_set_ne (fun e => hik e.symm)] at hp'
      obtain ⟨a1, a2, a3, a4⟩ := h.ma i p' hp'
      exact ⟨a1.stays hs a2 (by simp [hik]), (hs.tag _ a1.lt).trans a2, by omega, by omega⟩
  · have := h.bound; simp; omega
  · obtain ⟨z1, z2, z3, z4, z5, z6⟩ := h.sizes
    exact ⟨fun x hx => by have := z1 x hx; omega, fun x hx => by have := z2 x hx; omega, fun p hp => ⟨by have := (z3 p hp).1; omega, fun x hx => by have := (z3 p hp).2 x hx; omega⟩, by show σ.file.size ≤ _; omega, by show σ.key.size ≤ _; omega, by show σ.nonce.size ≤ _; omega⟩

set_option maxRecDepth 100000 in
set_option maxHeartbeats 1600000 in
theorem macked_36 {T : Tags} {base B M M' : Nat} {σ : Sig} {w : World} (h : Inv T base B M σ w) (o : OpR) (hok : o.ok) (hk : o.kind = 36) (h0 : 0 < σ.ma.length) (hM : M + o.s.size ≤ M') (hM2 : M' ≤ 1073741824) :
    Calls Tryz.prog 35 #[.pointer (some ⟨B, 0, none⟩), opV o] w fun e w' => e = .returned (.bool true) ∧ Done base B M' w w' := by
  have z : (o.kind == 35) = false := beq_eq_false_iff_ne.2 (by rw [hk]; decide)
  have z36 : (o.kind == 36) = true := beq_iff_eq.2 hk
  have hb0 : Below w.heap.size w (w.alloc (.cells #[.int .i64 o.kind, .int .i64 o.a, .int .i64 o.b, .int .i64 o.c, .string o.s, .string o.t] 29)) := (Below.refl _ _).alloc (Nat.le_refl _) _
  have hA := h.below hb0
  obtain ⟨g, cap, hv, hcap, hcm, hTg, hgl, hfz, hcell⟩ := RowT.cells3 (f := maV) maV_len hA.rma h0
  have c6 := hA.hw.1.cell (i := 7) rfl
  rw [hv] at c6
  have hpk := pickN_lt o.a σ.ma.length h0
  obtain ⟨p, hp⟩ : ∃ p, σ.ma[pickN o.a σ.ma.length]? = some p := ⟨_, List.getElem?_eq_getElem hpk⟩
  have d0 := hcell _ p hp 0 _ rfl
  have d1 := hcell _ p hp 1 _ rfl
  have d2 := hcell _ p hp 2 _ rfl
  have hoa := hok.a
  have hlen := hA.bound.2.2.2.2.2.2.2.2.1
  have hMb := hA.bound.1
  have hpick := fun w => pick_any o.a σ.ma.length w hoa.1 hoa.2 h0 (by omega)
  have hbB := hA.hw.1.lt
  have hts := fresh_new T w (9, 9) w.heap.size (Nat.le_refl _)
  have hbase := h.bsz
  unfold opV
  unfold maxLen at hcm
  have HA := hide hA
  have HB := hide hb0
  have HV := hide hv
  have HP := hide hp
  have HPK := hide hpick
  have HTS := hide hts
  have jn : (0 : Int) < (σ.ma.length : Int) := by omega
  clear hA hb0 h hk hv hp hTg hfz hcell hpick hts
  generalize hn : σ.ma.length = n at *
  generalize hpe : pickN o.a n = pk at *
  go_enter Tryz.func35, Tryz.ntmps35
  go_wp2
  refine wp_letterW (fun w' => Inv (fresh T w (9, 9)) base B M σ w' ∧ Below w.heap.size w w' ∧ w'.cell? ⟨B, 7, none⟩ = some (.slice (some ⟨g, 0, none⟩) n cap) ∧ w'.cell? ⟨w.heap.size, 0, none⟩ = some (.int .i64 o.kind) ∧ w'.cell? ⟨w.heap.size, 1, none⟩ = some (.int .i64 o.a) ∧ w'.cell? ⟨w.heap.size, 4, none⟩ = some (.string o.s) ∧ w'.cell? ⟨g, pk * 3, none⟩ = some (.pointer (some ⟨p.b, 0, none⟩)) ∧ w'.cell? ⟨g, pk * 3 + 1, none⟩ = some (.string p.key) ∧ w'.cell? ⟨g, pk * 3 + 2, none⟩ = some (.string ⟨p.l.toArray⟩) ∧ w.heap.size < w'.heap.size ∧ g < w'.heap.size ∧ B < w'.heap.size) ⟨HA.out, HB.out, c6, (World.cell?_alloc_at _ _ _ _ rfl).trans rfl, (World.cell?_alloc_at _ _ _ _ rfl).trans rfl, (World.cell?_alloc_at _ _ _ _ rfl).trans rfl, d0, d1, d2, by simp, hgl, hbB⟩ ?_
  clear c6 d0 d1 d2 HA HB hgl hbB
  rintro wq ⟨HI, HB, c6, e0, e1, e4, d0, d1, d2, hsz, hgl, hbB⟩
  have key : ∀ (m : Nat) (w3 : World), Blk w3 wq.heap.size 73 (laidOver [.pointer none, .string ⟨#[]⟩, .string ⟨#[]⟩] 0 [.pointer (some ⟨p.b, 0, none⟩), .string p.key, .string ⟨p.l.toArray⟩]) → ((wq.drewN m).alloc (.cells #[.pointer none, .string ⟨#[]⟩, .string ⟨#[]⟩] 73)).grownBy w3 (some wq.heap.size) → MaAt (fresh (fresh T w (9, 9)) wq (9, 9)) base B M σ w o g n cap pk w.heap.size wq.heap.size p w3 := by
    intro m w3 hb hg
    have hb1 : Below wq.heap.size wq w3 := (World.grownBy.new (row := none) (World.grownBy.refl wq none |>.drewN m) hg).none
    refine ⟨HI.same (Nat.le_refl _) HI.bound.1 (Stays.of_below (9, 9) hb1), HB.trans (hb1.mono (by omega)), ?_, ?_, ?_, hb.cell rfl, hb.cell rfl, hb.cell rfl, ?_, fresh_new _ _ _ _ (Nat.le_refl _), ?_, hb.lt⟩
    · rw [hb1.cell (show B < wq.heap.size by omega)]; exact c6
    · rw [hb1.cell (show w.heap.size < wq.heap.size by omega)]; exact e0
    · rw [hb1.cell (show w.heap.size < wq.heap.size by omega)]; exact e4
    · rw [fresh_old _ _ _ _ hsz]; exact HTS.out
    · have := hb1.size; omega
  have HKEY := hide key
  clear key HI HB
  go_quiet ((go_at_call 55; exact Calls.quiet_of_same (HPK.out _)))
  go_wp2_with (refine wpList_store_blk rfl 73 (.tmp 7) (.tmp 53) rfl wq.heap.size 0 #[.pointer (some ⟨p.b, 0, none⟩), .string p.key, .string ⟨p.l.toArray⟩] rfl rfl (info3 _ _ _) (one3 _ _ _) 73 [.pointer none, .string ⟨#[]⟩, .string ⟨#[]⟩] (Blk.new rfl rfl) (Nat.le_refl 3) ?_; intro w3 hB3 hG3; obtain ⟨HI3, HB3, c63, e03, e43, p03, pk3, p13, tsb, tnb, lsb, lnb⟩ := HKEY.out _ w3 hB3 hG3; replace HI3 := hide HI3; replace HB3 := hide HB3; clear hB3 hG3 HKEY c6 e0 e1 e4 d0 d1 d2 HTS; generalize (fresh (fresh T w (9, 9)) wq (9, 9)) = T3 at *; generalize wq.heap.size = nb at *; generalize hsbe : w.heap.size = sb at *)
  obtain ⟨hr1, hr2, hr3, hr5⟩ := HI3.out.ma pk p HP.out
  have hTg : T3 g = (2, 7) := HI3.out.rma.2 g (by rw [HV.out]; rfl)
  have hTB := HI3.out.hw.2
  have n1 : B ≠ p.b := tag_ne hTB hr2 (by simp)
  have n2 : sb ≠ p.b := tag_ne tsb hr2 (by simp)
  have n3 : nb ≠ p.b := tag_ne tnb hr2 (by simp)
  have n4 : g ≠ p.b := tag_ne hTg hr2 (by simp)
  have m1 : B ≠ g := tag_ne hTB hTg (by simp)
  have m2 : sb ≠ g := tag_ne tsb hTg (by simp)
  have m3 : nb ≠ g := tag_ne tnb hTg (by simp)
  have h2b : 2 ≤ p.b := Nat.le_trans HI3.out.two (HI3.out.ge hr2 (by simp))
  have hkt := HI3.out.kt
  obtain ⟨gg, cp, hvv, _, _, _, hgl3, hfz3, hcl3⟩ := RowT.cells3 (f := maV) maV_len HI3.out.rma (by rw [hn]; exact h0)
  rw [HV.out] at hvv
  injection hvv with hvv q7 q8
  injection hvv with hvv
  injection hvv with hvv q9 q10
  subst hvv
  clear q7 q8 q9 q10
  have d13 := hcl3 pk p HP.out 2 _ rfl
  have f13 := hfz3 (pk * 3 + 2) (by rw [hn]; omega)
  have hBl := HI3.out.hw.1.lt
  refine (kwrite_any p.b p.key.data.toList p.l o.s _ (by omega) hr1 hkt h2b).mono ?_
  rintro e w4 ⟨rfl, hr4, hg4⟩
  have c64 : w4.cell? ⟨B, 7, none⟩ = some (.slice (some ⟨g, 0, none⟩) n cap) := by rw [← c63]; exact World.cell?_of_block (hg4.block B hBl (fun e => n1 (Option.some.inj e)))
  have e44 : w4.cell? ⟨sb, 4, none⟩ = some (.string o.s) := by rw [← e43]; exact World.cell?_of_block (hg4.block sb lsb (fun e => n2 (Option.some.inj e)))
  have p14 : w4.cell? ⟨nb, 2, none⟩ = some (.string ⟨p.l.toArray⟩) := by rw [← p13]; exact World.cell?_of_block (hg4.block nb lnb (fun e => n3 (Option.some.inj e)))
  have d14 : w4.cell? ⟨g, pk * 3 + 2, none⟩ = some (.string ⟨p.l.toArray⟩) := by rw [← d13]; exact World.cell?_of_block (hg4.block g hgl3 (fun e => n4 (Option.some.inj e)))
  have f14 : w4.frozen? ⟨g, pk * 3 + 2, none⟩ = false := by rw [← f13]; unfold World.frozen?; rw [show w4.heap[g]? = w3.heap[g]? from hg4.block g hgl3 (fun e => n4 (Option.some.inj e))]
  have HF : Done base B M' w (w4.setCell ⟨g, pk * 3 + 2, none⟩ (.string (⟨p.l.toArray⟩ ++ o.s))) := by
    rw [ba_app]
    obtain ⟨T', σ', i1, i2⟩ := HI3.out.setMa (by omega) hM2 HP.out (p.l ++ o.s.data.toList) (by have : o.s.data.toList.length = o.s.size := by rw [Array.length_toList]; rfl
                                                                                                simp only [List.length_append]; omega) hg4 hr4 HV.out
    exact ⟨T', σ', i1, (HB3.out.mono hbase).trans i2⟩
  replace HF := hide HF
  clear hr1 hr2 hkt hfz3 hcl3 d13 f13 c63 e03 e43 p03 pk3 p13 hr4 hg4 HI3 HB3 n1 n2 n3 n4 tsb tnb lsb lnb hTg hTB h2b hBl HPK hgl3 hgl hbB hsz hoa hok hpe hsbe hn HP HV
  have hcat : ¬ (2 ^ 63 - 1 < (⟨p.l.toArray⟩ : ByteArray).size + o.s.size) := by have := hr3; show ¬ (_ < p.l.toArray.size + _); simp only [List.size_toArray]; omega
  clear hr3 hr5 hM hM2 hMb
  generalize (⟨p.l.toArray⟩ : ByteArray) = pl at *
  generalize o.s = os at *
  have hcat2 : ¬ (9223372036854775807 < pl.size + os.size) := by simpa using hcat
  have jp : (pk : Int) < (n : Int) := by omega
  go_wp2
  go_region_held3 (fun w' => w'.cell? ⟨B, 7, none⟩ = some (.slice (some ⟨g, 0, none⟩) n cap) ∧ w'.cell? ⟨sb, 4, none⟩ = some (.string os) ∧ w'.cell? ⟨nb, 2, none⟩ = some (.string pl)) (refine ⟨?_, ?_, ?_⟩ <;> first | assumption | (rw [cell_other _ _ _ _ (by assumption)]; assumption)) (fail)
  go_wp2
  go_ret
  exact ⟨rfl, HF.out.drew⟩

end Go.Proofs.YtpogfcfgbnccjaaGreatDoor
namespace Go.Proofs.YtpogfcfgbnccjaaGreatDoor
open Go.RowKit

set_option maxRecDepth 100000 in
set_option maxHeartbeats 1600000 in
theorem macked_37 {T : Tags} {base B M M' : Nat} {σ : Sig} {w : World} (h : Inv T base B M σ w) (o : OpR) (hok : o.ok) (hk : o.kind = 37) (h0 : 0 < σ.ma.length) (hM : M < M') (hM2 : M' ≤ 1073741824) :
    Calls Tryz.prog 35 #[.pointer (some ⟨B, 0, none⟩), opV o] w fun e w' => e = .returned (.bool true) ∧ Done base B M' w w' := by
  have z : (o.kind == 35) = false := beq_eq_false_iff_ne.2 (by rw [hk]; decide)
  have z36 : (o.kind == 36) = false := beq_eq_false_iff_ne.2 (by rw [hk]; decide)
  have hb0 : Below w.heap.size w (w.alloc (.cells #[.int .i64 o.kind, .int .i64 o.a, .int .i64 o.b, .int .i64 o.c, .string o.s, .string o.t] 29)) := (Below.refl _ _).alloc (Nat.le_refl _) _
  have hA := h.below hb0
  obtain ⟨g, cap, hv, hcap, hcm, hTg, hgl, hfz, hcell⟩ := RowT.cells3 (f := maV) maV_len hA.rma h0
  have c6 := hA.hw.1.cell (i := 7) rfl
  rw [hv] at c6
  have hpk := pickN_lt o.a σ.ma.length h0
  obtain ⟨p, hp⟩ : ∃ p, σ.ma[pickN o.a σ.ma.length]? = some p := ⟨_, List.getElem?_eq_getElem hpk⟩
  have d0 := hcell _ p hp 0 _ rfl
  have d1 := hcell _ p hp 1 _ rfl
  have d2 := hcell _ p hp 2 _ rfl
  have hoa := hok.a
  have hlen := hA.bound.2.2.2.2.2.2.2.2.1
  have hMb := hA.bound.1
  have hpick := fun w => pick_any o.a σ.ma.length w hoa.1 hoa.2 h0 (by omega)
  have hbB := hA.hw.1.lt
  have hts := fresh_new T w (9, 9) w.heap.size (Nat.le_refl _)
  have hbase := h.bsz
  unfold opV
  unfold maxLen at hcm
  have HA := hide hA
  have HB := hide hb0
  have HV := hide hv
  have HP := hide hp
  have HPK := hide hpick
  have HTS := hide hts
  have jn : (0 : Int) < (σ.ma.length : Int) := by omega
  clear hA hb0 h hk hv hp hTg hfz hcell hpick hts
  generalize hn : σ.ma.length = n at *
  generalize hpe : pickN o.a n = pk at *
  go_enter Tryz.func35, Tryz.ntmps35
  go_wp2
  refine wp_letterW (fun w' => Inv (fresh T w (9, 9)) base B M σ w' ∧ Below w.heap.size w w' ∧ w'.cell? ⟨B, 7, none⟩ = some (.slice (some ⟨g, 0, none⟩) n cap) ∧ w'.cell? ⟨w.heap.size, 0, none⟩ = some (.int .i64 o.kind) ∧ w'.cell? ⟨w.heap.size, 1, none⟩ = some (.int .i64 o.a) ∧ w'.cell? ⟨w.heap.size, 4, none⟩ = some (.string o.s) ∧ w'.cell? ⟨g, pk * 3, none⟩ = some (.pointer (some ⟨p.b, 0, none⟩)) ∧ w'.cell? ⟨g, pk * 3 + 1, none⟩ = some (.string p.key) ∧ w'.cell? ⟨g, pk * 3 + 2, none⟩ = some (.string ⟨p.l.toArray⟩) ∧ w.heap.size < w'.heap.size ∧ g < w'.heap.size ∧ B < w'.heap.size) ⟨HA.out, HB.out, c6, (World.cell?_alloc_at _ _ _ _ rfl).trans rfl, (World.cell?_alloc_at _ _ _ _ rfl).trans rfl, (World.cell?_alloc_at _ _ _ _ rfl).trans rfl, d0, d1, d2, by simp, hgl, hbB⟩ ?_
  clear c6 d0 d1 d2 HA HB hgl hbB
  rintro wq ⟨HI, HB, c6, e0, e1, e4, d0, d1, d2, hsz, hgl, hbB⟩
  have key : ∀ (m : Nat) (w3 : World), Blk w3 wq.heap.size 73 (laidOver [.pointer none, .string ⟨#[]⟩, .string ⟨#[]⟩] 0 [.pointer (some ⟨p.b, 0, none⟩), .string p.key, .string ⟨p.l.toArray⟩]) → ((wq.drewN m).alloc (.cells #[.pointer none, .string ⟨#[]⟩, .string ⟨#[]⟩] 73)).grownBy w3 (some wq.heap.size) → MaAt (fresh (fresh T w (9, 9)) wq (9, 9)) base B M σ w o g n cap pk w.heap.size wq.heap.size p w3 := by
    intro m w3 hb hg
    have hb1 : Below wq.heap.size wq w3 := (World.grownBy.new (row := none) (World.grownBy.refl wq none |>.drewN m) hg).none
    refine ⟨HI.same (Nat.le_refl _) HI.bound.1 (Stays.of_below (9, 9) hb1), HB.trans (hb1.mono (by omega)), ?_, ?_, ?_, hb.cell rfl, hb.cell rfl, hb.cell rfl, ?_, fresh_new _ _ _ _ (Nat.le_refl _), ?_, hb.lt⟩
    · rw [hb1.cell (show B < wq.heap.size by omega)]; exact c6
    · rw [hb1.cell (show w.heap.size < wq.heap.size by omega)]; exact e0
    · rw [hb1.cell (show w.heap.size < wq.heap.size by omega)]; exact e4
    · rw [fresh_old _ _ _ _ hsz]; exact HTS.out
    · have := hb1.size; omega
  have HKEY := hide key
  clear key HI HB
  go_quiet ((go_at_call 55; exact Calls.quiet_of_same (HPK.out _)))
  go_wp2_with (refine wpList_store_blk rfl 73 (.tmp 7) (.tmp 53) rfl wq.heap.size 0 #[.pointer (some ⟨p.b, 0, none⟩), .string p.key, .string ⟨p.l.toArray⟩] rfl rfl (info3 _ _ _) (one3 _ _ _) 73 [.pointer none, .string ⟨#[]⟩, .string ⟨#[]⟩] (Blk.new rfl rfl) (Nat.le_refl 3) ?_; intro w3 hB3 hG3; obtain ⟨HI3, HB3, c63, e03, e43, p03, pk3, p13, tsb, tnb, lsb, lnb⟩ := HKEY.out _ w3 hB3 hG3; replace HI3 := hide HI3; replace HB3 := hide HB3; clear hB3 hG3 HKEY c6 e0 e1 e4 d0 d1 d2 HTS; generalize (fresh (fresh T w (9, 9)) wq (9, 9)) = T3 at *; generalize wq.heap.size = nb at *; generalize hsbe : w.heap.size = sb at *)
  obtain ⟨hr1, hr2, hr3, hr5⟩ := HI3.out.ma pk p HP.out
  have hkt := HI3.out.kt
  have h2w : 2 ≤ w3.heap.size := Nat.le_trans HI3.out.two HI3.out.bsz
  refine (ksum_any p.b p.key.data.toList p.l _ (by omega) hr1 hkt h2w).mono ?_
  rintro e w4 ⟨rfl, hb4⟩
  have p14 : w4.cell? ⟨nb, 2, none⟩ = some (.string ⟨p.l.toArray⟩) := by rw [← p13]; exact hb4.cell lnb
  have k14 : w4.cell? ⟨nb, 1, none⟩ = some (.string p.key) := by rw [← pk3]; exact hb4.cell lnb
  have HI4 := hide (HI3.out.below hb4)
  have HB4 := hide (HB3.out.trans (hb4.mono (by have := HB3.out.size; omega)))
  generalize hpls : (⟨p.l.toArray⟩ : ByteArray) = pl at *
  have hpl1 : pl.data.toList = p.l := by rw [← hpls]
  have hpl2 : pl.size = p.l.length := by rw [← hpls]; exact List.size_toArray
  clear hpls hr1 hr2 hkt h2w HI3 HB3 hb4 c63 e03 e43 p03 pk3 p13 tsb tnb lsb lnb HPK
  rw [← hpl1]
  generalize hsm : (⟨(macL p.key.data.toList pl.data.toList).toArray⟩ : ByteArray) = sm at *
  have hsml : sm.size = 32 := by rw [← hsm]; show (macL _ _).toArray.size = _; rw [List.size_toArray]; exact macL_len _ _
  have href := fun w => refHmac_any p.key pl w (by omega) (by omega)
  rw [hsm] at href
  have HREF := hide href
  clear hsm hpl1 href
  go_wp2_with fail
  refine (HREF.out _).mono ?_
  rintro e w5 ⟨rfl, hb5⟩
  have HI5 := hide (HI4.out.below hb5)
  have HB5 := hide (HB4.out.trans (hb5.mono (by have := HB4.out.size; omega)))
  clear HI4 HB4 hb5 HREF
  go_wp2_with fail
  refine (word_any HI5.out sm hM hM2 (by omega)).mono ?_
  rintro e w6 ⟨rfl, T6, v6, hI6, hS6⟩
  have HF : Done base B M' w w6 := ⟨T6, _, hI6, (HB5.out.mono hbase).trans (hS6.below HI5.out.bsz HI5.out.old (by simp))⟩
  replace HF := hide HF
  clear hI6 hS6 HI5 HB5
  go_wp2
  go_ret
  exact ⟨by simp, HF.out⟩
end Go.Proofs.YtpogfcfgbnccjaaGreatDoor
namespace Go.Proofs.YtpogfcfgbnccjaaGreatDoor
open Go.RowKit

theorem one_str (i : Nat) (hi : i ≤ 255) (w : World) : (convert 62 9 (.slice (some ⟨w.heap.size, 0, none⟩) 1 1)).run Tryz.prog (w.alloc (.cells #[.int .u8 (i : Int)] 5)) = .ok (.string ⟨#[UInt8.ofNat i]⟩) (w.alloc (.cells #[.int .u8 (i : Int)] 5)) := by
  have hB : Blk (w.alloc (.cells #[.int .u8 (i : Int)] 5)) w.heap.size 5 (u8L [UInt8.ofNat i]) := Blk.new rfl (by simp [u8L]; omega)
  exact blk_str hB 1 1 rfl

set_option maxHeartbeats 400000 in
theorem oneByte_any (i : Nat) (hi : i ≤ 255) (w : World) :
    Calls Tryz.prog 111 #[.int .i64 (i : Int)] w fun e w' => e = .returned (.string ⟨#[UInt8.ofNat i]⟩) ∧ Below w.heap.size w w' := by
  have hcv := fun w => one_str i hi w
  have tw : IntKind.u8.wrap (i : Int) = (i : Int) := by show (i : Int) % 256 = _; omega
  have tm : (i : Int) % 256 = (i : Int) := by omega
  go_enter Tryz.func111, Tryz.ntmps111
  go_wp2
  go_ret
  exact ⟨rfl, (Below.refl _ _).alloc (Nat.le_refl _) _⟩

/-- T(k) of the expansion. -/
def expT (prk info : List UInt8) : Nat → List UInt8
  | 0 => []
  | k + 1 => macL prk (expT prk info k ++ info ++ [UInt8.ofNat (k + 1)])
def expO (prk info : List UInt8) : Nat → List UInt8
  | 0 => []
  | k + 1 => expO prk info k ++ expT prk info (k + 1)
theorem expT_len (prk info : List UInt8) (k : Nat) : (expT prk info k).length ≤ 32 := by
  cases k with
  | zero => exact Nat.zero_le _
  | succ k => exact Nat.le_of_eq (macL_len _ _)
theorem expO_len (prk info : List UInt8) : ∀ k, (expO prk info k).length = 32 * k
  | 0 => rfl
  | k + 1 => by
    show (expO prk info k ++ macL _ _).length = _
    rw [List.length_append, expO_len prk info k, macL_len]; omega

theorem ba_list (a b : ByteArray) : (a ++ b).data.toList = a.data.toList ++ b.data.toList := by simp [ByteArray.data_append]
theorem ba_len (a : ByteArray) : a.data.toList.length = a.size := by rw [Array.length_toList]; rfl
theorem ba_sz (a b : ByteArray) : (a ++ b).size = a.size + b.size := by rw [← ba_len, ba_list, List.length_append, ba_len, ba_len]

set_option maxRecDepth 100000 in
set_option maxHeartbeats 800000 in
theorem expand_any (prk info : ByteArray) (n : Nat) (w : World) (hn : n ≤ 8160) (hprk : prk.size < 2 ^ 50) (hinfo : info.size < 2 ^ 50) (hk : KTab w) (hH : HTab w) (h2 : 2 ≤ w.heap.size) :
    Calls Tryz.prog 54 #[.string prk, .string info, .int .i64 (n : Int)] w fun e w' => e = .returned (.string ⟨((expO prk.data.toList info.data.toList ((n + 31) / 32)).take n).toArray⟩) ∧ Below w.heap.size w w' := by
  obtain ⟨i0, hi0, hz0, hz1, hz2⟩ := info_parts infoU8
  have HI0 := hide hi0
  have HZ0 := hide hz0
  have HZ1 := hide hz1
  have HZ2 := hide hz2
  have HTL := hide (expT_len prk.data.toList info.data.toList)
  have HOL := hide (expO_len prk.data.toList info.data.toList)
  have HT := hide (show ∀ k, expT prk.data.toList info.data.toList (k + 1) = macL prk.data.toList (expT prk.data.toList info.data.toList k ++ info.data.toList ++ [UInt8.ofNat (k + 1)]) from fun _ => rfl)
  have HO := hide (show ∀ k, expO prk.data.toList info.data.toList (k + 1) = expO prk.data.toList info.data.toList k ++ expT prk.data.toList info.data.toList (k + 1) from fun _ => rfl)
  have HT0 := hide (show expT prk.data.toList info.data.toList 0 = [] from rfl)
  have HO0 := hide (show expO prk.data.toList info.data.toList 0 = [] from rfl)
  generalize expT prk.data.toList info.data.toList = T at *
  generalize expO prk.data.toList info.data.toList = O at *
  generalize hK : (n + 31) / 32 = K at *
  have HKN := hide hK
  clear hi0 hz0 hz1 hz2 hK
  go_enter Tryz.func54, Tryz.ntmps54
  go_wp2
  go_loopw [7, 8, 9] (fun vo vl vi wr => ∃ (k i m : Nat) (last : ByteArray), k ≤ K ∧ i = k + 1 ∧ m = 32 * k ∧ vi = .int .i64 (i : Nat) ∧ vl = .string last ∧ last.data.toList = T k ∧ wr.ownsRow w.heap.size 5 1 vo m (u8L (O k)) ∧ Below w.heap.size w wr ∧ vo ≠ .slice none 0 0) (fun _ _ i _ => 300 - (intOf i).toNat)
  case atStart =>
    refine ⟨0, 1, 0, ⟨#[]⟩, by omega, rfl, rfl, rfl, rfl, by rw [HT0.out], ?_, (Below.refl _ _).alloc (Nat.le_refl _) _, by simp⟩
    rw [HO0.out]
    exact ⟨rfl, .inr ⟨w.heap.size, 0, #[], rfl, Nat.le_refl _, heap_alloc_new w _, Nat.le_refl _, by decide, rfl, rfl⟩⟩
  case round =>
    obtain ⟨k, i, m, last, hkK, hik, hmk, rfl, rfl, hlast, hown, hbe, hne⟩ := hrel
    obtain ⟨ao, cap, rfl⟩ : ∃ ao cap, u7 = .slice ao m cap := by
      rcases hown.2 with ⟨rfl, rfl⟩ | ⟨g, cap, cur, rfl, _⟩
      · exact ⟨none, 0, rfl⟩
      · exact ⟨_, cap, rfl⟩
    have hKN := HKN.out
    by_cases hlt : m < n
    · have hi255 : i ≤ 255 := by omega
      have hll : last.size ≤ 32 := by rw [← ba_len, hlast]; exact HTL.out k
      have ls : (last ++ info ++ (⟨#[UInt8.ofNat i]⟩ : ByteArray)).data.toList = T k ++ info.data.toList ++ [UInt8.ofNat (k + 1)] := by rw [ba_list, ba_list, hlast, hik]
      have zs : (last ++ info ++ (⟨#[UInt8.ofNat i]⟩ : ByteArray)).size = last.size + info.size + 1 := by rw [ba_sz, ba_sz]; rfl
      have j1 : ¬ 9223372036854775807 < last.size + info.size := by omega
      have j2 : ¬ 9223372036854775807 < (last ++ info).size + (⟨#[UInt8.ofNat i]⟩ : ByteArray).size := by rw [ba_sz]; show ¬ 9223372036854775807 < last.size + info.size + 1; omega
      have hkr := hk.below hbe h2
      have hHr := hH.below hbe h2
      have h2r : 2 ≤ wr.heap.size := Nat.le_trans h2 hbe.size
      have HM := hide (fun w (a : KTab w) (b : HTab w) (c : 2 ≤ w.heap.size) => hmac_any prk (last ++ info ++ (⟨#[UInt8.ofNat i]⟩ : ByteArray)) w (by omega) (by rw [zs]; omega) a b c)
      rw [ls, ← HT.out k] at HM
      have hTl : (T (k + 1)).length = 32 := by rw [HT.out]; exact macL_len _ _
      obtain ⟨nl, hnl⟩ : ∃ nl : ByteArray, nl = ⟨(T (k + 1)).toArray⟩ := ⟨_, rfl⟩
      have hnll : nl.data.toList = T (k + 1) := by rw [hnl]
      have hnlz : nl.size = 32 := by rw [hnl, ba_size, hTl]
      rw [← hnl] at HM
      have HONE := hide (oneByte_any i hi255)
      have HOWN := hide hown
      have HBE := hide hbe
      have HNL := hide hnll
      have HIK := hide hik
      have HMK := hide hmk
      have HKR := hide hkr
      have HHR := hide hHr
      clear hown hbe ls zs hll hTl hnl hnll hlast hik hmk hkr hHr
      have jm : (m : Int) < (n : Int) := by omega
      generalize (⟨#[UInt8.ofNat i]⟩ : ByteArray) = ob at *
      go_wp2_with fail
      refine (HONE.out _).mono ?_
      rintro e w1 ⟨rfl, hb1⟩
      have HOWN1 := hide (HOWN.out.kept (hb1.grownBy none) (by cases hv : Value.ownBlock (.slice ao m cap) <;> simp))
      have HB1 := hide (HBE.out.trans (hb1.mono HBE.out.size))
      have HMM := hide (HM.out w1 (HKR.out.below hb1 h2r) (HHR.out.below hb1 h2r) (Nat.le_trans h2r hb1.size))
      clear hb1 HOWN HBE HM HONE HKR HHR
      go_wp2_with fail
      refine HMM.out.mono ?_
      rintro e w2 ⟨rfl, hb2⟩
      have HOWN2 := hide (HOWN1.out.kept (hb2.grownBy none) (by cases hv : Value.ownBlock (.slice ao m cap) <;> simp))
      have HB2 := hide (HB1.out.trans (hb2.mono HB1.out.size))
      clear hb2 HOWN1 HB1 HMM
      go_wp2_with (at_builtin; refine Lib.wpList_append_own_string (P := Tryz.prog) w2 rfl (.tmp 25) (.tmp 26) 62 9 rfl w.heap.size 5 i0 Tryz.underlying62 Tryz.underlying9 HI0.out HZ0.out HZ1.out HZ2.out _ m _ rfl HOWN2.out nl rfl ?_ ?_ HB2.out.size ?_; (unfold maxLen; omega); omega; intro v1 w3 hr1 hg1 hv1)
      go_roundw
      case rel =>
        refine ⟨k + 1, i + 1, m + nl.size, nl, by have := HMK.out; omega, by rw [HIK.out], by rw [HMK.out, hnlz]; omega, by go_num, rfl, HNL.out, ?_, ?_, fun e => hne (hv1.1 e).1⟩
        · have e : u8L (O (k + 1)) = u8L (O k) ++ Lib.strCells nl := by
            rw [HO.out, u8L_append, ← HNL.out]; rfl
          rw [e]
          exact hr1
        · exact Below.grown HB2.out hg1 HB2.out.size (fun k hk => (HOWN2.out.lt k hk).1)
      case measure => simp [intOf]; omega
    · have hkk : k = K := by omega
      have jm : ¬ (m : Int) < (n : Int) := by omega
      rcases hown.2 with ⟨hnil, _⟩ | ⟨g, cap', cur, hv, hg1, hg2, hg3, hg4, hg5, hg6⟩
      · exact absurd hnil hne
      · injection hv with e1 _ e3
        subst e1 e3
        subst hkk
        have hOl : ((O k).take n).length = n := by rw [List.length_take, HOL.out]; omega
        have hB : ∀ j u, (u8L (O k))[j]? = some u → wr.cell? ⟨g, j, none⟩ = some u := fun j u hu => by
          have := hown.cells (g := g) rfl j u hu
          rwa [Addr.add_mid, Nat.zero_add] at this
        have hcv : (convert 62 9 (.slice (some ⟨g, 0, none⟩) n cap)).run Tryz.prog wr = .ok (.string ⟨((O k).take n).toArray⟩) wr := by
          have h := run_convert_bytes_back (P := Tryz.prog) wr 62 9 5 ⟨g, 0, none⟩ cap ((O k).take n) Tryz.underlying62 Tryz.underlying5 Tryz.underlying9 (fun j hj => by
            rw [Addr.add_mid, Nat.zero_add]
            refine hB j _ ?_
            simp only [List.length_take] at hj
            rw [List.getElem_take]
            simp [u8L, show j < (O k).length by omega])
          rw [hOl] at h
          exact h
        have jc : n ≤ cap := by omega
        have HBE := hide hbe
        unfold maxLen at hg4
        generalize hout : (O k).take n = out at *
        have HOUT := hide hout
        clear hout
        clear hown hbe hlast hmk hik hkK hKN HTL HOL HT HO HKN hB hg1 hg2 hg5 hg6 hOl HT0 HO0
        go_wp2
        go_ret
        rw [HOUT.out]
        exact ⟨rfl, HBE.out⟩
end Go.Proofs.YtpogfcfgbnccjaaGreatDoor
namespace Go.Proofs.YtpogfcfgbnccjaaGreatDoor
open Go.RowKit

set_option maxHeartbeats 400000 in
theorem kExpand_bad (prk info : ByteArray) (n : Int) (w : World) (hn : n < 0 ∨ 8160 < n) :
    Calls Tryz.prog 27 #[.string prk, .string info, .int .i64 n] w fun e w' => e = .returned (.tuple #[.string ⟨#[]⟩, .int .i64 2]) ∧ w' = w := by
  rcases hn with hn | hn
  · go_enter Tryz.func27, Tryz.ntmps27
    go_wp2
    refine bodyPost_ret (results_tmp2 rfl _ _ _) rfl ?_
    exact ⟨rfl, rfl⟩
  · have hn0 : ¬ n < 0 := by omega
    go_enter Tryz.func27, Tryz.ntmps27
    go_wp2
    refine bodyPost_ret (results_tmp2 rfl _ _ _) rfl ?_
    exact ⟨rfl, rfl⟩
set_option maxHeartbeats 400000 in
theorem refExpand_bad (prk info : ByteArray) (n : Int) (w : World) (hn : n < 0 ∨ 8160 < n) :
    Calls Tryz.prog 28 #[.string prk, .string info, .int .i64 n] w fun e w' => e = .returned (.tuple #[.string ⟨#[]⟩, .int .i64 2]) ∧ w' = w := by
  rcases hn with hn | hn
  · go_enter Tryz.func28, Tryz.ntmps28
    go_wp2
    refine bodyPost_ret (results_tmp2 rfl _ _ _) rfl ?_
    exact ⟨rfl, rfl⟩
  · have hn0 : ¬ n < 0 := by omega
    go_enter Tryz.func28, Tryz.ntmps28
    go_wp2
    refine bodyPost_ret (results_tmp2 rfl _ _ _) rfl ?_
    exact ⟨rfl, rfl⟩

set_option maxHeartbeats 800000 in
theorem kExpand_any (prk info : ByteArray) (n : Nat) (w : World) (hn : n ≤ 8160) (hprk : prk.size < 2 ^ 50) (hinfo : info.size < 2 ^ 50) (hk : KTab w) (hH : HTab w) (h2 : 2 ≤ w.heap.size) :
    Calls Tryz.prog 27 #[.string prk, .string info, .int .i64 (n : Int)] w fun e w' => e = .returned (.tuple #[.string ⟨((expO prk.data.toList info.data.toList ((n + 31) / 32)).take n).toArray⟩, .int .i64 0]) ∧ Below w.heap.size w w' := by
  have j0 : ¬ (n : Int) < 0 := by omega
  have j1 : ¬ (8160 : Int) < (n : Int) := by omega
  have H := hide (expand_any prk info n w hn hprk hinfo hk hH h2)
  clear hk hH
  go_enter Tryz.func27, Tryz.ntmps27
  go_wp2_with fail
  refine H.out.mono ?_
  rintro e w1 ⟨rfl, hb1⟩
  have HB := hide hb1
  clear hb1
  go_wp2
  refine bodyPost_ret (results_tmp2 rfl _ _ _) rfl ?_
  exact ⟨rfl, HB.out⟩
theorem ba_ext {a b : ByteArray} (h : a.data.toList = b.data.toList) : a = b := ByteArray.ext (Array.toList_inj.1 h)
theorem ext_take (a : ByteArray) (n : Nat) : (a.extract 0 n).data.toList = a.data.toList.take n := by
  simp

set_option maxRecDepth 100000 in
set_option maxHeartbeats 800000 in
theorem refExpand_any (prk info : ByteArray) (n : Nat) (w : World) (hn : n ≤ 8160) (hprk : prk.size ≤ 1090000000) (hinfo : info.size ≤ 1080000000) :
    Calls Tryz.prog 28 #[.string prk, .string info, .int .i64 (n : Int)] w fun e w' => e = .returned (.tuple #[.string ⟨((expO prk.data.toList info.data.toList ((n + 31) / 32)).take n).toArray⟩, .int .i64 0]) ∧ Below w.heap.size w w' := by
  have j0 : ¬ (n : Int) < 0 := by omega
  have j1 : ¬ (8160 : Int) < (n : Int) := by omega
  have HTL := hide (expT_len prk.data.toList info.data.toList)
  have HOL := hide (expO_len prk.data.toList info.data.toList)
  have HT := hide (show ∀ k, expT prk.data.toList info.data.toList (k + 1) = macL prk.data.toList (expT prk.data.toList info.data.toList k ++ info.data.toList ++ [UInt8.ofNat (k + 1)]) from fun _ => rfl)
  have HO := hide (show ∀ k, expO prk.data.toList info.data.toList (k + 1) = expO prk.data.toList info.data.toList k ++ expT prk.data.toList info.data.toList (k + 1) from fun _ => rfl)
  have HT0 := hide (show expT prk.data.toList info.data.toList 0 = [] from rfl)
  have HO0 := hide (show expO prk.data.toList info.data.toList 0 = [] from rfl)
  generalize expT prk.data.toList info.data.toList = T at *
  generalize expO prk.data.toList info.data.toList = O at *
  generalize hK : (n + 31) / 32 = K at *
  have HKN := hide hK
  clear hK
  go_enter Tryz.func28, Tryz.ntmps28
  go_wp2
  go_loopw [8, 9, 10] (fun vo vl vi wr => ∃ (k i m : Nat) (last out : ByteArray), k ≤ K ∧ i = k + 1 ∧ m = 32 * k ∧ vi = .int .i64 (i : Nat) ∧ vl = .string last ∧ last.data.toList = T k ∧ vo = .string out ∧ out.data.toList = O k ∧ Below w.heap.size w wr) (fun _ _ i _ => 300 - (intOf i).toNat)
  case atStart => exact ⟨0, 1, 0, ⟨#[]⟩, ⟨#[]⟩, by omega, rfl, rfl, rfl, rfl, by rw [HT0.out], rfl, by rw [HO0.out], Below.refl _ _⟩
  case round =>
    obtain ⟨k, i, m, last, out, hkK, hik, hmk, rfl, rfl, hlast, rfl, hout, hbe⟩ := hrel
    have hKN := HKN.out
    have hoz : out.size = m := by rw [← ba_len, hout, HOL.out, hmk]
    by_cases hlt : m < n
    · have hi255 : i ≤ 255 := by omega
      have hll : last.size ≤ 32 := by rw [← ba_len, hlast]; exact HTL.out k
      have ls : (last ++ info ++ (⟨#[UInt8.ofNat i]⟩ : ByteArray)).data.toList = T k ++ info.data.toList ++ [UInt8.ofNat (k + 1)] := by rw [ba_list, ba_list, hlast, hik]
      have zs : (last ++ info ++ (⟨#[UInt8.ofNat i]⟩ : ByteArray)).size = last.size + info.size + 1 := by rw [ba_sz, ba_sz]; rfl
      have k1 : ¬ 9223372036854775807 < last.size + info.size := by omega
      have k2 : ¬ 9223372036854775807 < (last ++ info).size + (⟨#[UInt8.ofNat i]⟩ : ByteArray).size := by rw [ba_sz]; show ¬ 9223372036854775807 < last.size + info.size + 1; omega
      have HM := hide (fun w => refHmac_any prk (last ++ info ++ (⟨#[UInt8.ofNat i]⟩ : ByteArray)) w hprk (by rw [zs]; omega))
      rw [ls, ← HT.out k] at HM
      have hTl : (T (k + 1)).length = 32 := by rw [HT.out]; exact macL_len _ _
      obtain ⟨nl, hnl⟩ : ∃ nl : ByteArray, nl = ⟨(T (k + 1)).toArray⟩ := ⟨_, rfl⟩
      have hnll : nl.data.toList = T (k + 1) := by rw [hnl]
      have hnlz : nl.size = 32 := by rw [hnl, ba_size, hTl]
      have k3 : ¬ 9223372036854775807 < out.size + nl.size := by omega
      rw [← hnl] at HM
      have hcv := fun w => one_str i hi255 w
      have tw : IntKind.u8.wrap (i : Int) = (i : Int) := by show (i : Int) % 256 = _; omega
      have tm : (i : Int) % 256 = (i : Int) := by omega
      have HON := hide (show (out ++ nl).data.toList = O (k + 1) by rw [ba_list, hout, hnll, HO.out])
      have HBE := hide hbe
      have HNL := hide hnll
      have HIK := hide hik
      have HMK := hide hmk
      have HNZ := hide hnlz
      have jm : (out.size : Int) < (n : Int) := by omega
      clear hbe ls zs hll hTl hnl hnll hlast hik hmk hnlz hout hoz
      generalize (⟨#[UInt8.ofNat i]⟩ : ByteArray) = ob at *
      go_wp2_with fail
      refine (HM.out _).mono ?_
      rintro e w2 ⟨rfl, hb2⟩
      have HB2 := hide ((HBE.out.alloc HBE.out.size _).trans (hb2.mono (by have := HBE.out.size; simp; omega)))
      clear hb2 HBE HM hcv
      go_wp2
      go_roundw
      case rel => exact ⟨k + 1, i + 1, m + 32, nl, out ++ nl, by have := HMK.out; omega, by rw [HIK.out], by rw [HMK.out]; omega, by go_num, rfl, HNL.out, rfl, HON.out, HB2.out⟩
      case measure => simp [intOf]; omega
    · have hkk : k = K := by omega
      have jm : ¬ (out.size : Int) < (n : Int) := by omega
      have jn : n ≤ out.size := by omega
      have HF := hide (show out.extract 0 n = ⟨((O K).take n).toArray⟩ from ba_ext (by rw [ext_take, hout, hkk]))
      have HBE := hide hbe
      clear hbe hlast hmk hik hkK hKN HTL HOL HT HO HKN HT0 HO0 hoz hout hlt hkk
      go_wp2
      refine bodyPost_ret (results_tmp2 rfl _ _ _) rfl ?_
      rw [← HF.out]
      exact ⟨rfl, HBE.out⟩

set_option maxRecDepth 100000 in
set_option maxHeartbeats 800000 in
theorem kKey_any (ikm salt info : ByteArray) (w : World) (h1 : ikm.size < 2 ^ 50) (h3 : salt.size < 2 ^ 50) (hinfo : info.size < 2 ^ 50) (hk : KTab w) (hH : HTab w) (h2 : 2 ≤ w.heap.size) :
    Calls Tryz.prog 29 #[.string ikm, .string salt, .string info] w fun e w' => e = .returned (.string ⟨((expO (macL salt.data.toList ikm.data.toList) info.data.toList 1).take 32).toArray⟩) ∧ Below w.heap.size w w' := by
  have H1 := hide (extract_any salt ikm w (by omega) (by omega) hk hH h2)
  have hml := macL_len salt.data.toList ikm.data.toList
  generalize macL salt.data.toList ikm.data.toList = pl at *
  obtain ⟨p, hp⟩ : ∃ p : ByteArray, p = ⟨pl.toArray⟩ := ⟨_, rfl⟩
  rw [← hp] at H1
  have hz : p.size = 32 := by rw [hp, ba_size, hml]
  have hd : p.data.toList = pl := by rw [hp]
  have HE := hide (fun w (a : KTab w) (b : HTab w) (c : 2 ≤ w.heap.size) => expand_any p info 32 w (by decide) (by omega) hinfo a b c)
  rw [hd] at HE
  have HK := hide hk
  have HH := hide hH
  clear hk hH hp hd hz hml
  go_enter Tryz.func29, Tryz.ntmps29
  go_wp2_with fail
  refine H1.out.mono ?_
  rintro e w1 ⟨rfl, hb1⟩
  have HB1 := hide hb1
  have HEE := hide (HE.out w1 (HK.out.below hb1 h2) (HH.out.below hb1 h2) (Nat.le_trans h2 hb1.size))
  clear hb1 HE H1
  go_wp2_with fail
  refine HEE.out.mono ?_
  rintro e w2 ⟨rfl, hb2⟩
  have HB2 := hide (HB1.out.trans (hb2.mono HB1.out.size))
  clear hb2
  go_wp2
  go_ret
  exact ⟨rfl, HB2.out⟩

set_option maxRecDepth 100000 in
set_option maxHeartbeats 800000 in
theorem refKey_any (ikm salt info : ByteArray) (w : World) (h1 : ikm.size ≤ 1090000000) (h3 : salt.size ≤ 1090000000) (hinfo : info.size ≤ 1080000000) :
    Calls Tryz.prog 30 #[.string ikm, .string salt, .string info] w fun e w' => e = .returned (.string ⟨((expO (macL salt.data.toList ikm.data.toList) info.data.toList 1).take 32).toArray⟩) ∧ Below w.heap.size w w' := by
  have H1 := hide (fun w => refHmac_any salt ikm w h3 h1)
  have hml := macL_len salt.data.toList ikm.data.toList
  generalize macL salt.data.toList ikm.data.toList = pl at *
  obtain ⟨p, hp⟩ : ∃ p : ByteArray, p = ⟨pl.toArray⟩ := ⟨_, rfl⟩
  rw [← hp] at H1
  have hz : p.size = 32 := by rw [hp, ba_size, hml]
  have hd : p.data.toList = pl := by rw [hp]
  have HE := hide (fun w => refExpand_any p info 32 w (by decide) (by omega) hinfo)
  rw [hd] at HE
  clear hp hd hz hml
  go_enter Tryz.func30, Tryz.ntmps30
  go_wp2_with fail
  refine (H1.out _).mono ?_
  rintro e w1 ⟨rfl, hb1⟩
  have HB1 := hide hb1
  clear hb1 H1
  go_wp2_with fail
  refine (HE.out _).mono ?_
  rintro e w2 ⟨rfl, hb2⟩
  have HB2 := hide (HB1.out.trans (hb2.mono HB1.out.size))
  clear hb2 HE
  go_wp2
  go_ret
  exact ⟨rfl, HB2.out⟩
end Go.Proofs.YtpogfcfgbnccjaaGreatDoor
namespace Go.Proofs.YtpogfcfgbnccjaaGreatDoor
open Go.RowKit

theorem or_zero {x y : Nat} : x ||| y = 0 ↔ x = 0 ∧ y = 0 := Nat.or_eq_zero_iff
theorem xor_zero {x y : Nat} : x ^^^ y = 0 ↔ x = y := by
  constructor
  · intro h
    apply Nat.eq_of_testBit_eq
    intro i
    have h1 := congrArg (fun z : Nat => z.testBit i) h
    simpa using h1
  · rintro rfl
    exact Nat.xor_self _
theorem take_next {a b : List UInt8} {k : Nat} (ha : k < a.length) (hb : k < b.length) : a.take (k + 1) = b.take (k + 1) ↔ a.take k = b.take k ∧ a[k] = b[k] := by
  rw [List.take_succ_eq_append_getElem ha, List.take_succ_eq_append_getElem hb]
  constructor
  · intro h
    have h1 := List.append_inj h (by simp; omega)
    exact ⟨h1.1, by simpa using h1.2⟩
  · rintro ⟨h1, h2⟩
    rw [h1, h2]

set_option maxRecDepth 100000 in
set_option maxHeartbeats 800000 in
theorem same_any (a b : ByteArray) (w : World) (ha : a.size ≤ 1099511627776) :
    Calls Tryz.prog 32 #[.string a, .string b] w fun e w' => e = .returned (.bool (decide (a = b))) ∧ ∃ m, w' = w.drewN m := by
  by_cases hl : a.size = b.size
  · have jl : (a.size : Int) = (b.size : Int) := by omega
    have jl2 : ((a.size : Int) != (b.size : Int)) = false := by rw [jl]; simp
    have HL := hide hl
    clear hl jl
    go_enter Tryz.func32, Tryz.ntmps32
    go_wp2
    go_loopw [5, 6] (fun vo vi wr => ∃ (k X m : Nat), k ≤ a.size ∧ vi = .int .i64 (k : Nat) ∧ vo = .int .u8 (X : Nat) ∧ X < 256 ∧ (X = 0 ↔ a.data.toList.take k = b.data.toList.take k) ∧ wr = w.drewN m) (fun _ i _ => a.size - (intOf i).toNat)
    case atStart => exact ⟨0, 0, 0, by omega, rfl, rfl, by decide, by simp, rfl⟩
    case round =>
      obtain ⟨k, X, m, hk, rfl, rfl, hX, hiff, rfl⟩ := hrel
      by_cases hlt : k < a.size
      · have hltb : k < b.size := by rw [← HL.out]; exact hlt
        have hx : a[k].toNat < 256 := UInt8.toNat_lt _
        have hy : b[k].toNat < 256 := UInt8.toNat_lt _
        have t1 := u8_xor_nat a[k].toNat b[k].toNat hx hy
        have t2 := u8_or_nat X (a[k].toNat ^^^ b[k].toNat) hX (Nat.xor_lt_two_pow (n := 8) hx hy)
        have hstep : (X ||| (a[k].toNat ^^^ b[k].toNat) = 0 ↔ a.data.toList.take (k + 1) = b.data.toList.take (k + 1)) := by
          have hka : k < a.data.toList.length := by rw [ba_len]; exact hlt
          have hkb : k < b.data.toList.length := by rw [ba_len]; exact hltb
          rw [take_next hka hkb, or_zero, xor_zero, hiff]
          have e1 : a.data.toList[k] = a[k] := by rw [Array.getElem_toList]; rfl
          have e2 : b.data.toList[k] = b[k] := by rw [Array.getElem_toList]; rfl
          rw [e1, e2, UInt8.toNat_inj]
        have hlt2 : X ||| (a[k].toNat ^^^ b[k].toNat) < 256 := Nat.or_lt_two_pow (n := 8) hX (Nat.xor_lt_two_pow (n := 8) hx hy)
        have HST := hide hstep
        clear hstep hiff
        generalize X ||| (a[k].toNat ^^^ b[k].toNat) = Y at *
        refine wp_letterW (fun w' => ∃ m, w' = w.drewN m) ⟨m, rfl⟩ ?_
        rintro wq hm
        go_wp2
        go_quiet (fail)
        go_wp2
        go_roundw
        case rel =>
          obtain ⟨m', rfl⟩ := hm
          exact ⟨k + 1, Y, m' + nq, by omega, by go_num, by first | rfl | go_num, hlt2, HST.out, by simp⟩
        case measure => simp [intOf]; omega
      · have hka : k = a.size := by omega
        have hkey : (X = 0 ↔ a = b) := by
          rw [hiff, hka, List.take_of_length_le (by rw [ba_len]; exact Nat.le_refl _), List.take_of_length_le (by rw [ba_len, HL.out]; exact Nat.le_refl _)]
          exact ⟨fun h => ba_ext h, fun h => by rw [h]⟩
        have hres : decide (a = b) = ((X : Int) == 0) := by
          by_cases h : X = 0
          · rw [decide_eq_true (hkey.1 h), h]; rfl
          · rw [decide_eq_false (fun e => h (hkey.2 e))]
            exact (beq_eq_false_iff_ne.2 (by omega)).symm
        have HR := hide hres
        clear hkey hres hiff
        go_wp2
        go_ret
        rw [HR.out]
        exact ⟨rfl, m, rfl⟩
  · have jl2 : ((a.size : Int) != (b.size : Int)) = true := by simp; omega
    have hf : decide (a = b) = false := decide_eq_false (fun e => hl (by rw [e]))
    rw [hf]
    clear hl hf
    go_enter Tryz.func32, Tryz.ntmps32
    go_wp2
    go_ret
    exact ⟨rfl, 0, rfl⟩
end Go.Proofs.YtpogfcfgbnccjaaGreatDoor
namespace Go.Proofs.YtpogfcfgbnccjaaGreatDoor
open Go.RowKit

theorem macked_any {T : Tags} {base B M M' : Nat} {σ : Sig} {w : World} (h : Inv T base B M σ w) (o : OpR) (hok : o.ok) (hk : o.kind = 35 ∨ o.kind = 36 ∨ o.kind = 37) (hM : M + o.s.size + o.t.size < M') (hM2 : M' ≤ 1073741824) :
    Calls Tryz.prog 35 #[.pointer (some ⟨B, 0, none⟩), opV o] w fun e w' => e = .returned (.bool true) ∧ Done base B M' w w' := by
  by_cases h35 : o.kind = 35
  · exact macked_35 h o h35 (by omega) hM2
  · rcases Nat.eq_zero_or_pos σ.ma.length with h0 | h0
    · refine (macked_none h o h35 h0).mono ?_
      rintro e w' ⟨h1, h2⟩
      exact ⟨h1, h2.more (by omega) hM2⟩
    · rcases hk with hk | hk | hk
      · exact absurd hk h35
      · exact macked_36 h o hok hk h0 (by omega) hM2
      · exact macked_37 h o hok hk h0 (by omega) hM2

set_option maxRecDepth 100000 in
set_option maxHeartbeats 800000 in
theorem engine_35 {base B : Nat} (o : OpR) (hok : o.ok) (hk : o.kind = 35) : Step 18 base B o := by
  intro T M M' σ w h hM hM2
  have z30 : (o.kind == 30) = false := beq_eq_false_iff_ne.2 (by rw [hk]; decide)
  have z31 : (o.kind == 31) = false := beq_eq_false_iff_ne.2 (by rw [hk]; decide)
  have z32 : (o.kind == 32) = false := beq_eq_false_iff_ne.2 (by rw [hk]; decide)
  have z33 : (o.kind == 33) = false := beq_eq_false_iff_ne.2 (by rw [hk]; decide)
  have z34 : (o.kind == 34) = false := beq_eq_false_iff_ne.2 (by rw [hk]; decide)
  have z35 : (o.kind == 35) = true := beq_iff_eq.2 hk
  have hS : Std base B M σ w (w.alloc (.cells #[.int .i64 o.kind, .int .i64 o.a, .int .i64 o.b, .int .i64 o.c, .string o.s, .string o.t] 29)) := Std.alloc ⟨⟨T, h⟩, Below.refl _ _⟩ _
  have HS := hide hS
  have HK := hide hk
  clear hS h hk
  unfold opV
  go_enter Tryz.func18, Tryz.ntmps18
  go_wp2_with fail
  obtain ⟨⟨T9, hI9⟩, hB9⟩ := HS.out
  refine (macked_any hI9 o hok (by have := HK.out; omega) hM hM2).mono ?_
  rintro e w5 ⟨rfl, hd⟩
  have HD := hide (Done.from hB9 hd)
  clear hd hI9 hB9 HS
  go_wp2
  go_ret
  exact ⟨rfl, HD.out⟩

set_option maxRecDepth 100000 in
set_option maxHeartbeats 800000 in
theorem engine_36 {base B : Nat} (o : OpR) (hok : o.ok) (hk : o.kind = 36) : Step 18 base B o := by
  intro T M M' σ w h hM hM2
  have z30 : (o.kind == 30) = false := beq_eq_false_iff_ne.2 (by rw [hk]; decide)
  have z31 : (o.kind == 31) = false := beq_eq_false_iff_ne.2 (by rw [hk]; decide)
  have z32 : (o.kind == 32) = false := beq_eq_false_iff_ne.2 (by rw [hk]; decide)
  have z33 : (o.kind == 33) = false := beq_eq_false_iff_ne.2 (by rw [hk]; decide)
  have z34 : (o.kind == 34) = false := beq_eq_false_iff_ne.2 (by rw [hk]; decide)
  have z35 : (o.kind == 35) = false := beq_eq_false_iff_ne.2 (by rw [hk]; decide)
  have z36 : (o.kind == 36) = true := beq_iff_eq.2 hk
  have hS : Std base B M σ w (w.alloc (.cells #[.int .i64 o.kind, .int .i64 o.a, .int .i64 o.b, .int .i64 o.c, .string o.s, .string o.t] 29)) := Std.alloc ⟨⟨T, h⟩, Below.refl _ _⟩ _
  have HS := hide hS
  have HK := hide hk
  clear hS h hk
  unfold opV
  go_enter Tryz.func18, Tryz.ntmps18
  go_wp2_with fail
  obtain ⟨⟨T9, hI9⟩, hB9⟩ := HS.out
  refine (macked_any hI9 o hok (by have := HK.out; omega) hM hM2).mono ?_
  rintro e w5 ⟨rfl, hd⟩
  have HD := hide (Done.from hB9 hd)
  clear hd hI9 hB9 HS
  go_wp2
  go_ret
  exact ⟨rfl, HD.out⟩

set_option maxRecDepth 100000 in
set_option maxHeartbeats 800000 in
theorem engine_37 {base B : Nat} (o : OpR) (hok : o.ok) (hk : o.kind = 37) : Step 18 base B o := by
  intro T M M' σ w h hM hM2
  have z30 : (o.kind == 30) = false := beq_eq_false_iff_ne.2 (by rw [hk]; decide)
  have z31 : (o.kind == 31) = false := beq_eq_false_iff_ne.2 (by rw [hk]; decide)
  have z32 : (o.kind == 32) = false := beq_eq_false_iff_ne.2 (by rw [hk]; decide)
  have z33 : (o.kind == 33) = false := beq_eq_false_iff_ne.2 (by rw [hk]; decide)
  have z34 : (o.kind == 34) = false := beq_eq_false_iff_ne.2 (by rw [hk]; decide)
  have z35 : (o.kind == 35) = false := beq_eq_false_iff_ne.2 (by rw [hk]; decide)
  have z36 : (o.kind == 36) = false := beq_eq_false_iff_ne.2 (by rw [hk]; decide)
  have z37 : (o.kind == 37) = true := beq_iff_eq.2 hk
  have hS : Std base B M σ w (w.alloc (.cells #[.int .i64 o.kind, .int .i64 o.a, .int .i64 o.b, .int .i64 o.c, .string o.s, .string o.t] 29)) := Std.alloc ⟨⟨T, h⟩, Below.refl _ _⟩ _
  have HS := hide hS
  have HK := hide hk
  clear hS h hk
  unfold opV
  go_enter Tryz.func18, Tryz.ntmps18
  go_wp2_with fail
  obtain ⟨⟨T9, hI9⟩, hB9⟩ := HS.out
  refine (macked_any hI9 o hok (by have := HK.out; omega) hM hM2).mono ?_
  rintro e w5 ⟨rfl, hd⟩
  have HD := hide (Done.from hB9 hd)
  clear hd hI9 hB9 HS
  go_wp2
  go_ret
  exact ⟨rfl, HD.out⟩

set_option maxRecDepth 100000 in
set_option maxHeartbeats 1600000 in
theorem pure_51 {base B : Nat} (o : OpR) (hk : o.kind = 51) : Step 17 base B o := by
  intro T M M' σ w h hM hM2
  have z50 : (o.kind == 50) = false := beq_eq_false_iff_ne.2 (by rw [hk]; decide)
  have z51 : (o.kind == 51) = true := beq_iff_eq.2 hk
  have hS : Std base B M σ w (w.alloc (.cells #[.int .i64 o.kind, .int .i64 o.a, .int .i64 o.b, .int .i64 o.c, .string o.s, .string o.t] 29)) := Std.alloc ⟨⟨T, h⟩, Below.refl _ _⟩ _
  have hsl : w.heap.size < (w.alloc (.cells #[.int .i64 o.kind, .int .i64 o.a, .int .i64 o.b, .int .i64 o.c, .string o.s, .string o.t] 29)).heap.size := by simp
  have e4 : (w.alloc (.cells #[.int .i64 o.kind, .int .i64 o.a, .int .i64 o.b, .int .i64 o.c, .string o.s, .string o.t] 29)).cell? ⟨w.heap.size, 4, none⟩ = some (.string o.s) := World.cell?_alloc_at _ _ _ _ rfl
  have e5 : (w.alloc (.cells #[.int .i64 o.kind, .int .i64 o.a, .int .i64 o.b, .int .i64 o.c, .string o.s, .string o.t] 29)).cell? ⟨w.heap.size, 5, none⟩ = some (.string o.t) := World.cell?_alloc_at _ _ _ _ rfl
  have hMb := h.bound.1
  have hkz := h.sizes.2.2.2.2.1
  have HS := hide hS
  clear hS h hk
  unfold opV
  have HREF := hide (fun w => refHmac_any o.s o.t w (by omega) (by omega))
  have HMAC := hide (fun w (a : KTab w) (b : HTab w) (c : 2 ≤ w.heap.size) => hmac_any o.s o.t w (by omega) (by omega) a b c)
  have HEXT := hide (fun w (a : KTab w) (b : HTab w) (c : 2 ≤ w.heap.size) => extract_any o.s o.t w (by omega) (by omega) a b c)
  generalize hsm : (⟨(macL o.s.data.toList o.t.data.toList).toArray⟩ : ByteArray) = sm at *
  have hsml : sm.size = 32 := by rw [← hsm, ba_size, macL_len]
  clear hsm
  go_enter Tryz.func17, Tryz.ntmps17
  go_wp2_with fail
  obtain ⟨⟨T1, hI1⟩, hB1⟩ := HS.out
  have HI1 := hide hI1
  have HB1 := hide hB1
  clear hI1 hB1 HS
  refine (HMAC.out _ HI1.out.kt HI1.out.ht (Nat.le_trans HI1.out.two HI1.out.bsz)).mono ?_
  rintro e w2 ⟨rfl, hb2⟩
  have hsl2 : w.heap.size < w2.heap.size := Nat.lt_of_lt_of_le hsl hb2.size
  have f24 : w2.cell? ⟨w.heap.size, 4, none⟩ = some (.string o.s) := by rw [hb2.cell hsl]; exact e4
  have f25 : w2.cell? ⟨w.heap.size, 5, none⟩ = some (.string o.t) := by rw [hb2.cell hsl]; exact e5
  have HI2 := hide (HI1.out.below hb2)
  have HB2 := hide (HB1.out.trans (hb2.mono HI1.out.bsz))
  clear hb2 hsl e4 e5 HI1 HB1 HMAC
  go_wp2_with fail
  refine (HREF.out _).mono ?_
  rintro e w3 ⟨rfl, hb3⟩
  have hsl3 : w.heap.size < w3.heap.size := Nat.lt_of_lt_of_le hsl2 hb3.size
  have f34 : w3.cell? ⟨w.heap.size, 4, none⟩ = some (.string o.s) := by rw [hb3.cell hsl2]; exact f24
  have f35 : w3.cell? ⟨w.heap.size, 5, none⟩ = some (.string o.t) := by rw [hb3.cell hsl2]; exact f25
  have HI3 := hide (HI2.out.below hb3)
  have HB3 := hide (HB2.out.trans (hb3.mono HI2.out.bsz))
  clear hb3 hsl2 f24 f25 HI2 HB2 HREF
  go_wp2_with fail
  refine (HEXT.out _ HI3.out.kt HI3.out.ht (Nat.le_trans HI3.out.two HI3.out.bsz)).mono ?_
  rintro e w4 ⟨rfl, hb4⟩
  have hsl4 : w.heap.size < w4.heap.size := Nat.lt_of_lt_of_le hsl3 hb4.size
  have f44 : w4.cell? ⟨w.heap.size, 4, none⟩ = some (.string o.s) := by rw [hb4.cell hsl3]; exact f34
  have f45 : w4.cell? ⟨w.heap.size, 5, none⟩ = some (.string o.t) := by rw [hb4.cell hsl3]; exact f35
  have HI4 := hide (HI3.out.below hb4)
  have HB4 := hide (HB3.out.trans (hb4.mono HI3.out.bsz))
  clear hb4 hsl3 f34 f35 HI3 HB3 HEXT
  clear hsl4 f44 f45
  go_wp2_with fail
  refine (word_any HI4.out sm (by omega) hM2 (by omega)).mono ?_
  rintro e w9 ⟨rfl, T9, v9, hI9, hS9⟩
  have HF : Done base B M' w w9 := ⟨T9, _, hI9, HB4.out.trans (hS9.below HI4.out.bsz HI4.out.old (by simp))⟩
  replace HF := hide HF
  clear hI9 hS9 HI4 HB4
  go_wp2
  go_ret
  exact ⟨by simp, HF.out⟩

set_option maxRecDepth 100000 in
set_option maxHeartbeats 1600000 in
theorem pure_53 {base B : Nat} (o : OpR) (hk : o.kind = 53) : Step 17 base B o := by
  intro T M M' σ w h hM hM2
  have z50 : (o.kind == 50) = false := beq_eq_false_iff_ne.2 (by rw [hk]; decide)
  have z51 : (o.kind == 51) = false := beq_eq_false_iff_ne.2 (by rw [hk]; decide)
  have z52 : (o.kind == 52) = false := beq_eq_false_iff_ne.2 (by rw [hk]; decide)
  have z53 : (o.kind == 53) = true := beq_iff_eq.2 hk
  have hS : Std base B M σ w (w.alloc (.cells #[.int .i64 o.kind, .int .i64 o.a, .int .i64 o.b, .int .i64 o.c, .string o.s, .string o.t] 29)) := Std.alloc ⟨⟨T, h⟩, Below.refl _ _⟩ _
  have hsl : w.heap.size < (w.alloc (.cells #[.int .i64 o.kind, .int .i64 o.a, .int .i64 o.b, .int .i64 o.c, .string o.s, .string o.t] 29)).heap.size := by simp
  have e4 : (w.alloc (.cells #[.int .i64 o.kind, .int .i64 o.a, .int .i64 o.b, .int .i64 o.c, .string o.s, .string o.t] 29)).cell? ⟨w.heap.size, 4, none⟩ = some (.string o.s) := World.cell?_alloc_at _ _ _ _ rfl
  have e5 : (w.alloc (.cells #[.int .i64 o.kind, .int .i64 o.a, .int .i64 o.b, .int .i64 o.c, .string o.s, .string o.t] 29)).cell? ⟨w.heap.size, 5, none⟩ = some (.string o.t) := World.cell?_alloc_at _ _ _ _ rfl
  have hMb := h.bound.1
  have hkz := h.sizes.2.2.2.2.1
  have HS := hide hS
  clear hS h hk
  unfold opV
  have HREF := hide (fun w => refKey_any o.s o.t σ.key w (by omega) (by omega) (by omega))
  have HKEY := hide (fun w (a : KTab w) (b : HTab w) (c : 2 ≤ w.heap.size) => kKey_any o.s o.t σ.key w (by omega) (by omega) (by omega) a b c)
  generalize hsm : (⟨((expO (macL o.t.data.toList o.s.data.toList) σ.key.data.toList 1).take 32).toArray⟩ : ByteArray) = sm at *
  have hsml : sm.size ≤ 32 := by rw [← hsm, ba_size, List.length_take]; omega
  clear hsm
  have HC := hide (show ∀ w2, Std base B M σ w w2 → w2.cell? ⟨B, 12, none⟩ = some (.string σ.key) from fun w2 h2 => h2.field 12 rfl)
  have c12 := HC.out _ HS.out
  go_enter Tryz.func17, Tryz.ntmps17
  go_wp2
  refine wp_letterW (fun w' => Std base B M σ w w' ∧ w'.cell? ⟨w.heap.size, 4, none⟩ = some (.string o.s) ∧ w'.cell? ⟨w.heap.size, 5, none⟩ = some (.string o.t) ∧ w.heap.size < w'.heap.size) ⟨HS.out, e4, e5, hsl⟩ ?_
  clear c12 e4 e5 HS hsl
  rintro wq ⟨hSq, e4, e5, hsl⟩
  have c12 := HC.out _ hSq
  obtain ⟨⟨T1, hI1⟩, hB1⟩ := hSq.drew
  have hBlt : B < wq.drew.heap.size := hI1.hw.1.lt
  have HI1 := hide hI1
  have HB1 := hide hB1
  clear hI1 hB1 hSq
  go_region_held3 (fun w' => w'.cell? ⟨B, 12, none⟩ = some (.string σ.key) ∧ w'.cell? ⟨w.heap.size, 4, none⟩ = some (.string o.s) ∧ w'.cell? ⟨w.heap.size, 5, none⟩ = some (.string o.t)) (refine ⟨?_, ?_, ?_⟩ <;> first | assumption | (exact (hb2.cell hBlt).trans (by assumption)) | (exact (hb2.cell hsl).trans (by assumption))) ((go_at_call 29; refine (HKEY.out _ HI1.out.kt HI1.out.ht (Nat.le_trans HI1.out.two HI1.out.bsz)).mono ?_; rintro e w2 ⟨rfl, hb2⟩))
  rename_i hH
  obtain ⟨g12, g4, g5⟩ := hH
  have hsl2 : w.heap.size < w2.heap.size := Nat.lt_of_lt_of_le hsl hb2.size
  have hBlt2 : B < w2.heap.size := Nat.lt_of_lt_of_le hBlt hb2.size
  have HI2 := hide (HI1.out.below hb2)
  have HB2 := hide (HB1.out.trans (hb2.mono HI1.out.bsz))
  clear hb2 HI1 HB1 e4 e5 c12 HKEY hsl hBlt
  go_wp2
  go_region_held3 (fun w' => w'.cell? ⟨B, 12, none⟩ = some (.string σ.key) ∧ w'.cell? ⟨w.heap.size, 4, none⟩ = some (.string o.s) ∧ w'.cell? ⟨w.heap.size, 5, none⟩ = some (.string o.t)) (refine ⟨?_, ?_, ?_⟩ <;> first | assumption | (exact (hb3.cell hBlt2).trans (by assumption)) | (exact (hb3.cell hsl2).trans (by assumption))) ((go_at_call 30; refine (HREF.out _).mono ?_; rintro e w3 ⟨rfl, hb3⟩))
  have HI3 := hide (HI2.out.drew.below hb3)
  have hdr : Below base w2 w2.drew := ⟨rfl, rfl, rfl, Nat.le_refl _, fun _ _ => rfl⟩
  have HB3 := hide (HB2.out.trans (hdr.trans (hb3.mono HI2.out.bsz)))
  clear hdr
  clear hb3 HI2 HB2 HREF g12 g4 g5 hsl2 hBlt2
  go_wp2_with fail
  refine (word_any HI3.out sm (by omega) hM2 (by omega)).mono ?_
  rintro e w9 ⟨rfl, T9, v9, hI9, hS9⟩
  have HF : Done base B M' w w9 := ⟨T9, _, hI9, HB3.out.trans (hS9.below HI3.out.bsz HI3.out.old (by simp))⟩
  replace HF := hide HF
  clear hI9 hS9 HI3 HB3
  go_wp2
  go_ret
  exact ⟨by simp, HF.out⟩

set_option maxRecDepth 100000 in
set_option maxHeartbeats 1600000 in
theorem pure_54 {base B : Nat} (o : OpR) (hok : o.ok) (hk : o.kind = 54) : Step 17 base B o := by
  intro T M M' σ w h hM hM2
  have z50 : (o.kind == 50) = false := beq_eq_false_iff_ne.2 (by rw [hk]; decide)
  have z51 : (o.kind == 51) = false := beq_eq_false_iff_ne.2 (by rw [hk]; decide)
  have z52 : (o.kind == 52) = false := beq_eq_false_iff_ne.2 (by rw [hk]; decide)
  have z53 : (o.kind == 53) = false := beq_eq_false_iff_ne.2 (by rw [hk]; decide)
  have z54 : (o.kind == 54) = true := beq_iff_eq.2 hk
  have hS : Std base B M σ w (w.alloc (.cells #[.int .i64 o.kind, .int .i64 o.a, .int .i64 o.b, .int .i64 o.c, .string o.s, .string o.t] 29)) := Std.alloc ⟨⟨T, h⟩, Below.refl _ _⟩ _
  have hsl : w.heap.size < (w.alloc (.cells #[.int .i64 o.kind, .int .i64 o.a, .int .i64 o.b, .int .i64 o.c, .string o.s, .string o.t] 29)).heap.size := by simp
  have e4 : (w.alloc (.cells #[.int .i64 o.kind, .int .i64 o.a, .int .i64 o.b, .int .i64 o.c, .string o.s, .string o.t] 29)).cell? ⟨w.heap.size, 4, none⟩ = some (.string o.s) := World.cell?_alloc_at _ _ _ _ rfl
  have e5 : (w.alloc (.cells #[.int .i64 o.kind, .int .i64 o.a, .int .i64 o.b, .int .i64 o.c, .string o.s, .string o.t] 29)).cell? ⟨w.heap.size, 5, none⟩ = some (.string o.t) := World.cell?_alloc_at _ _ _ _ rfl
  have hMb := h.bound.1
  have hkz := h.sizes.2.2.2.2.1
  have HS := hide hS
  clear hS h hk
  unfold opV
  go_enter Tryz.func17, Tryz.ntmps17
  go_wp2_with fail
  obtain ⟨⟨T1, hI1⟩, hB1⟩ := HS.out
  have HI1 := hide hI1
  have HB1 := hide hB1
  clear hI1 hB1 HS
  have HI5 := hide (HI1.out.more (M' := M + o.s.size + o.t.size) (by omega) (by omega))
  refine (long_any HI5.out o hok (by omega)).mono ?_
  rintro e w2 ⟨t, rfl, hts, hb2⟩
  have hsl2 : w.heap.size < w2.heap.size := Nat.lt_of_lt_of_le hsl hb2.size
  have f24 : w2.cell? ⟨w.heap.size, 4, none⟩ = some (.string o.s) := by rw [hb2.cell hsl]; exact e4
  have HI2 := hide (HI5.out.below hb2)
  have HB2 := hide (HB1.out.trans (hb2.mono HI1.out.bsz))
  clear hb2 hsl e4 e5 HI1 HI5 HB1
  go_wp2_with fail
  refine (same_any o.s t w2 (by omega)).mono ?_
  rintro e w3 ⟨rfl, m3, rfl⟩
  have hF : Done base B M' w (w2.drewN m3) := ⟨_, _, (HI2.out.drewN m3).more (by omega) hM2, below_drewN HB2.out m3⟩
  have HF := hide hF
  clear hF HI2 HB2
  have hdec : (o.s.toList == t.toList) = decide (o.s = t) := by
    rw [ByteArray.toList_eq, ByteArray.toList_eq]
    by_cases h : o.s = t
    · rw [h, decide_eq_true rfl]; exact beq_iff_eq.2 rfl
    · rw [decide_eq_false h]; exact beq_eq_false_iff_ne.2 (fun e => h (ba_ext e))
  have HDEC := hide hdec
  clear hdec
  generalize decide (o.s = t) = bb at *
  go_wp2
  go_ret
  refine ⟨?_, HF.out⟩
  show Ending.returned (.bool (bb == (o.s.toList == t.toList))) = _
  rw [HDEC.out]
  simp

set_option maxRecDepth 100000 in
set_option maxHeartbeats 1600000 in
theorem pure_52g {base B : Nat} (o : OpR) (hk : o.kind = 52) (n : Nat) (ha : o.a = (n : Int)) (hn : n ≤ 8160) : Step 17 base B o := by
  intro T M M' σ w h hM hM2
  have z50 : (o.kind == 50) = false := beq_eq_false_iff_ne.2 (by rw [hk]; decide)
  have z51 : (o.kind == 51) = false := beq_eq_false_iff_ne.2 (by rw [hk]; decide)
  have z52 : (o.kind == 52) = true := beq_iff_eq.2 hk
  have hS : Std base B M σ w (w.alloc (.cells #[.int .i64 o.kind, .int .i64 o.a, .int .i64 o.b, .int .i64 o.c, .string o.s, .string o.t] 29)) := Std.alloc ⟨⟨T, h⟩, Below.refl _ _⟩ _
  have hsl : w.heap.size < (w.alloc (.cells #[.int .i64 o.kind, .int .i64 o.a, .int .i64 o.b, .int .i64 o.c, .string o.s, .string o.t] 29)).heap.size := by simp
  have e1 : (w.alloc (.cells #[.int .i64 o.kind, .int .i64 o.a, .int .i64 o.b, .int .i64 o.c, .string o.s, .string o.t] 29)).cell? ⟨w.heap.size, 1, none⟩ = some (.int .i64 o.a) := World.cell?_alloc_at _ _ _ _ rfl
  have e4 : (w.alloc (.cells #[.int .i64 o.kind, .int .i64 o.a, .int .i64 o.b, .int .i64 o.c, .string o.s, .string o.t] 29)).cell? ⟨w.heap.size, 4, none⟩ = some (.string o.s) := World.cell?_alloc_at _ _ _ _ rfl
  have e5 : (w.alloc (.cells #[.int .i64 o.kind, .int .i64 o.a, .int .i64 o.b, .int .i64 o.c, .string o.s, .string o.t] 29)).cell? ⟨w.heap.size, 5, none⟩ = some (.string o.t) := World.cell?_alloc_at _ _ _ _ rfl
  have hMb := h.bound.1
  have hkz := h.sizes.2.2.2.2.1
  have HS := hide hS
  clear hS h hk
  unfold opV
  have HREF := hide (fun w => refExpand_any o.s o.t n w hn (by omega) (by omega))
  have HEXP := hide (fun w (a : KTab w) (b : HTab w) (c : 2 ≤ w.heap.size) => kExpand_any o.s o.t n w hn (by omega) (by omega) a b c)
  generalize hsm : (⟨((expO o.s.data.toList o.t.data.toList ((n + 31) / 32)).take n).toArray⟩ : ByteArray) = sm at *
  have hsml : sm.size ≤ 8160 := by rw [← hsm, ba_size, List.length_take]; omega
  clear hsm
  rw [ha] at e1
  rw [ha] at hsl e4 e5
  rw [ha] at HS
  rw [ha]
  clear ha
  go_enter Tryz.func17, Tryz.ntmps17
  go_wp2_with fail
  obtain ⟨⟨T1, hI1⟩, hB1⟩ := HS.out
  have HI1 := hide hI1
  have HB1 := hide hB1
  clear hI1 hB1 HS
  refine (HEXP.out _ HI1.out.kt HI1.out.ht (Nat.le_trans HI1.out.two HI1.out.bsz)).mono ?_
  rintro e w2 ⟨rfl, hb2⟩
  have hsl2 : w.heap.size < w2.heap.size := Nat.lt_of_lt_of_le hsl hb2.size
  have f21 : w2.cell? ⟨w.heap.size, 1, none⟩ = some (.int .i64 (n : Int)) := by rw [hb2.cell hsl]; exact e1
  have f24 : w2.cell? ⟨w.heap.size, 4, none⟩ = some (.string o.s) := by rw [hb2.cell hsl]; exact e4
  have f25 : w2.cell? ⟨w.heap.size, 5, none⟩ = some (.string o.t) := by rw [hb2.cell hsl]; exact e5
  have HI2 := hide (HI1.out.below hb2)
  have HB2 := hide (HB1.out.trans (hb2.mono HI1.out.bsz))
  clear hb2 hsl e1 e4 e5 HI1 HB1 HEXP
  go_wp2_with fail
  refine (HREF.out _).mono ?_
  rintro e w3 ⟨rfl, hb3⟩
  have hsl3 : w.heap.size < w3.heap.size := Nat.lt_of_lt_of_le hsl2 hb3.size
  have f31 : w3.cell? ⟨w.heap.size, 1, none⟩ = some (.int .i64 (n : Int)) := by rw [hb3.cell hsl2]; exact f21
  have f34 : w3.cell? ⟨w.heap.size, 4, none⟩ = some (.string o.s) := by rw [hb3.cell hsl2]; exact f24
  have f35 : w3.cell? ⟨w.heap.size, 5, none⟩ = some (.string o.t) := by rw [hb3.cell hsl2]; exact f25
  have HI3 := hide (HI2.out.below hb3)
  have HB3 := hide (HB2.out.trans (hb3.mono HI2.out.bsz))
  clear hb3 hsl2 f21 f24 f25 HI2 HB2 HREF
  clear hsl3 f31 f34 f35
  go_wp2_with fail
  refine (word_any HI3.out sm (by omega) hM2 (by omega)).mono ?_
  rintro e w9 ⟨rfl, T9, v9, hI9, hS9⟩
  have HF : Done base B M' w w9 := ⟨T9, _, hI9, HB3.out.trans (hS9.below HI3.out.bsz HI3.out.old (by simp))⟩
  replace HF := hide HF
  clear hI9 hS9 HI3 HB3
  go_wp2
  go_ret
  exact ⟨by simp, HF.out⟩

set_option maxRecDepth 100000 in
set_option maxHeartbeats 1600000 in
theorem pure_52b {base B : Nat} (o : OpR) (hk : o.kind = 52) (hn : o.a < 0 ∨ 8160 < o.a) : Step 17 base B o := by
  intro T M M' σ w h hM hM2
  have z50 : (o.kind == 50) = false := beq_eq_false_iff_ne.2 (by rw [hk]; decide)
  have z51 : (o.kind == 51) = false := beq_eq_false_iff_ne.2 (by rw [hk]; decide)
  have z52 : (o.kind == 52) = true := beq_iff_eq.2 hk
  have hS : Std base B M σ w (w.alloc (.cells #[.int .i64 o.kind, .int .i64 o.a, .int .i64 o.b, .int .i64 o.c, .string o.s, .string o.t] 29)) := Std.alloc ⟨⟨T, h⟩, Below.refl _ _⟩ _
  have hsl : w.heap.size < (w.alloc (.cells #[.int .i64 o.kind, .int .i64 o.a, .int .i64 o.b, .int .i64 o.c, .string o.s, .string o.t] 29)).heap.size := by simp
  have e1 : (w.alloc (.cells #[.int .i64 o.kind, .int .i64 o.a, .int .i64 o.b, .int .i64 o.c, .string o.s, .string o.t] 29)).cell? ⟨w.heap.size, 1, none⟩ = some (.int .i64 o.a) := World.cell?_alloc_at _ _ _ _ rfl
  have e4 : (w.alloc (.cells #[.int .i64 o.kind, .int .i64 o.a, .int .i64 o.b, .int .i64 o.c, .string o.s, .string o.t] 29)).cell? ⟨w.heap.size, 4, none⟩ = some (.string o.s) := World.cell?_alloc_at _ _ _ _ rfl
  have e5 : (w.alloc (.cells #[.int .i64 o.kind, .int .i64 o.a, .int .i64 o.b, .int .i64 o.c, .string o.s, .string o.t] 29)).cell? ⟨w.heap.size, 5, none⟩ = some (.string o.t) := World.cell?_alloc_at _ _ _ _ rfl
  have hMb := h.bound.1
  have hkz := h.sizes.2.2.2.2.1
  have HS := hide hS
  clear hS h hk
  unfold opV
  go_enter Tryz.func17, Tryz.ntmps17
  go_wp2_with fail
  obtain ⟨⟨T1, hI1⟩, hB1⟩ := HS.out
  have HI1 := hide hI1
  have HB1 := hide hB1
  clear hI1 hB1 HS
  refine (kExpand_bad o.s o.t o.a _ hn).mono ?_
  rintro e w2 ⟨rfl, rfl⟩
  go_wp2_with fail
  refine (refExpand_bad o.s o.t o.a _ hn).mono ?_
  rintro e w2 ⟨rfl, rfl⟩
  clear hsl e1 e4 e5
  go_wp2_with fail
  refine (word_any HI1.out ⟨#[]⟩ (by omega) hM2 (Nat.zero_le _)).mono ?_
  rintro e w9 ⟨rfl, T9, v9, hI9, hS9⟩
  have HF : Done base B M' w w9 := ⟨T9, _, hI9, HB1.out.trans (hS9.below HI1.out.bsz HI1.out.old (by simp))⟩
  replace HF := hide HF
  clear hI9 hS9 HI1 HB1
  go_wp2
  go_ret
  exact ⟨by simp, HF.out⟩

theorem pure_52 {base B : Nat} (o : OpR) (hk : o.kind = 52) : Step 17 base B o := by
  by_cases h : o.a < 0 ∨ 8160 < o.a
  · exact pure_52b o hk h
  · exact pure_52g o hk o.a.toNat (by omega) (by omega)
end Go.Proofs.YtpogfcfgbnccjaaGreatDoor
namespace Go.Proofs.YtpogfcfgbnccjaaGreatDoor
open Go.ChangeShapes Go.WideShapes Go.ChangeAt Go.RowKit Go.Deep

def macKinds : List Int := [35, 36, 37, 51, 52, 53, 54]

set_option maxRecDepth 100000 in
set_option maxHeartbeats 800000 in
theorem macs_any (v : Value) (l : List OpR) (w : World) (hv : Script w v l) (hk : KTab w) (hh : HTab w) (h2 : 2 ≤ w.heap.size) (hok : ∀ p ∈ l, p.ok) (hl : l.length ≤ 1152921504606846976) :
    Calls Tryz.prog 4 #[v] w fun e w' => e = .returned (.bool true) ∧ Below w.heap.size w w' := by
  have hb : Below w.heap.size w (w.alloc (.cells (intV macKinds).toArray 3)) := (Below.refl _ _).alloc (Nat.le_refl _) _
  have HPL := hide (plays_any v l macKinds w.heap.size (w.alloc (.cells (intV macKinds).toArray 3)) (hv.alloc _) (Kinds.new _ _) (by decide) (hk.below hb h2) (hh.below hb h2) (Nat.le_trans h2 hb.size) hok hl
    (fun b o ho hkp h50 => by
      have h := kept_call hkp (by omega)
      simp [macKinds] at h
      have h' : o.kind = 51 ∨ o.kind = 52 ∨ o.kind = 53 ∨ o.kind = 54 := by omega
      rcases h' with h | h | h | h
      · exact pure_51 o h
      · exact pure_52 o h
      · exact pure_53 o h
      · exact pure_54 o ho h)
    (fun b o ho hkp h30 h50 => by
      have h := kept_call hkp h30
      simp [macKinds] at h
      have h' : o.kind = 35 ∨ o.kind = 36 ∨ o.kind = 37 := by omega
      rcases h' with h | h | h
      · exact engine_35 o ho h
      · exact engine_36 o ho h
      · exact engine_37 o ho h)
    (fun b o ho hkp h30 => own_steps macKinds (by decide) b o ho hkp h30))
  have HB := hide hb
  clear hv hk hh h2 hok hl hb
  go_enter Tryz.func4, Tryz.ntmps4
  go_wp2_with fail
  refine HPL.out.mono ?_
  rintro e w' ⟨rfl, hb'⟩
  have HF := hide (HB.out.trans (hb'.mono HB.out.size))
  clear hb'
  go_wp2
  go_ret
  exact ⟨rfl, HF.out⟩

set_option maxRecDepth 100000 in
/-- FOR EVERY ARGUMENT, AND EVERY WORLD THAT HOLDS THE TABLES. -/
theorem macs_contract (H : Type) (enc : TypeId × Value → H) (W : World) (base : Nat) (args : Array Value) (ds gs : List (DataW H)) (before : List MemPlace)
    (hval : ∀ (j : Nat) t v, Tryz.f4.params[j]? = some t → args[j]? = some v → Value.okWide Tryz.prog W .any base t v)
    (hW : DataW.Whole enc Tryz.prog Tryz.f4.params.toList Rows.macsSpec.vars false W args.toList ds gs before)
    (hz : ∀ n ∈ DataW.weightsEach Tryz.prog Tryz.f4.params.toList (ds ++ gs), n ≤ reachBytes) (hL : laidMetH Tryz.prog Rows.macsRow.laid W) :
    Calls Tryz.prog 4 args W fun e W' => ∃ v, e = .returned v ∧ Rows.macsSpec.post enc Tryz.prog Tryz.f4 false true false false W args v W' := by
  have hW' := hW
  obtain ⟨p, q, hA0, hV, rfl, hfz, hnd⟩ := hW
  have hA : DataW.TrodAll enc Tryz.prog W 0 (fun _ => true) true Tryz.f4.params.toList args.toList ds p := hA0
  rw [Tryz.params4] at hA hval hz
  obtain ⟨v0, d0, rfl, rfl, h0⟩ := trodAll_one hA
  obtain ⟨rfl, rfl⟩ := trodVars_none hV
  obtain ⟨a0, len, cap, rfl⟩ := okWide_slice Tryz.underlying22 (hval 0 22 v0 rfl rfl)
  clear hA0 hfz hnd
  simp only [List.append_nil] at hW'
  have hlt : ∀ x ∈ p, x.block < W.heap.size := fun x hx => by simpa using hW'.lt x hx
  obtain ⟨l, hS, hok, hl⟩ := open_script h0 (fun n hn => hz n (DataW.weights_mem_each (j := 0) rfl rfl n hn))
  obtain ⟨hh, hk⟩ := tabs2 hL
  have h2 : 2 ≤ W.heap.size := World.block_lt_of_cell? W _ (hk 0 (by decide))
  refine (macs_any _ l W hS hk hh h2 hok hl).mono fun e W' ⟨he, hb⟩ => ?_
  subst he
  refine ⟨_, rfl, _, _, _, [], p, [], hW', ?_, trodAll_mk1 (Below.trod laidOut (by kernel_rfl) (of_decide_eq_true (by kernel_rfl)) h0 hb hlt), rfl, hb.frame _, fun h => by cases h⟩
  exact trodAll_mk1 (shut_bool Tryz.underlying4 _)
end Go.Proofs.YtpogfcfgbnccjaaGreatDoor
namespace Go.Proofs.YtpogfcfgbnccjaaGreatDoor
open Go.ChangeShapes Go.WideShapes Go.ChangeAt Go.RowKit

theorem macs_laid_met (os : Os) : laidMet Tryz.prog Rows.macsRow.laid ((laidWorld Tryz.prog os).forCall (fun _ _ => 0) ⟨#[], #[.slice none 0 0], []⟩).memory :=
  laidMet_of_run' 8 (by kernel_rfl) (by kernel_rfl)
theorem macs_reads (os : Os) {H : Type} (enc : TypeId × Value → H) : ∃ places, DataW.whole enc Tryz.prog ((laidWorld Tryz.prog os).forCall (fun _ _ => 0) ⟨#[], #[.slice none 0 0], []⟩).memory Tryz.f4.params.toList Rows.macsSpec.vars false #[Value.slice none 0 0].toList 8 = some ([.nil], [], places) :=
  ⟨[], by kernel_rfl⟩

set_option maxRecDepth 100000 in
theorem macs_lifted (os : Os) (started : os.Started) (H : Type) (enc : TypeId × Value → H) (F : Stop.Interp) :
    ReturnsInHanded {} Tryz.checked os 4 .any ((OpenSpec.ofChange Rows.macsSpec).preRow enc Tryz.prog Tryz.f4 Rows.macsRow.domain false Rows.macsRow.laid) (((OpenSpec.ofChange Rows.macsSpec).at F).post enc Tryz.prog Tryz.f4 false true false false) := by
  obtain ⟨places, hx⟩ := macs_reads os enc
  refine returnsInHanded_of_row (C := Tryz.checked) (s := OpenSpec.ofChange Rows.macsSpec) own started (by kernel_rfl) Tryz.func4
    (witness_row_at (enc := enc) (C := Tryz.checked) false (laidWorld Tryz.prog os) #[.slice none 0 0] rfl (by kernel_rfl) (by kernel_rfl) (by kernel_rfl)
      (OpenSpec.preRow_of_cond 8 hx (by kernel_rfl) (fun k hk => by cases hk) (by kernel_rfl) (macs_laid_met os))) ?_
  intro W base args ds gs before hval hW _ _ hz hL _ _
  have hz' : ∀ n ∈ DataW.weightsEach Tryz.prog Tryz.f4.params.toList (ds ++ gs), n ≤ reachBytes := by
    have hz2 : (DataW.weightsEach Tryz.prog Tryz.f4.params.toList (ds ++ gs)).all (· ≤ reachBytes) = true := hz
    intro n hn
    simpa using List.all_eq_true.1 hz2 n hn
  exact macs_contract H enc W base args ds gs before hval hW hz' hL

theorem macs_j1 : Tryz.prog.inPlace 4 = Rows.macsRow.inPlace := by kernel_rfl
theorem macs_j2 : Tryz.prog.unfollowed 4 = Rows.macsRow.unfollowed := by kernel_rfl
theorem macs_j3 : Tryz.prog.recurses 4 = Rows.macsRow.recurses := by kernel_rfl
theorem macs_j4 : Tryz.prog.varsNamed 4 = Rows.macsRow.named := by kernel_rfl
theorem macs_j : joinedFacts Tryz.prog 4 Tryz.f4 (OpenSpec.ofChange Rows.macsSpec).bare Rows.macsRow = true := by
  unfold joinedFacts
  rw [macs_j1, macs_j2, macs_j3, macs_j4]
  kernel_rfl
theorem macs_said : Rows.MacsSaid :=
  OpenClaim.holds_of_cond 4 Tryz.f4 rfl rfl rfl rfl rfl rfl rfl ⟨rfl, rfl, rfl, rfl, rfl⟩ rfl rfl rfl rfl rfl (by kernel_rfl) Tryz.func4 macs_j
    (of_decide_eq_true (by kernel_rfl)) (by unfold Func.isWrapper; first | (rw [if_pos (by decide +kernel)]; kernel_rfl) | (rw [if_neg (by decide +kernel)]; exact ⟨rfl, rfl⟩))
    (fun os started H enc _ F => by rw [OpenClaim.pre_eq_preRow]; exact macs_lifted os started H enc F)

theorem macs_plain (f : FuncId) (fn : Func) (hf : Tryz.pinned.checked.prog.funcNamed "strongbox/strongboxlaw.Macs" = some f) (hfn : Tryz.pinned.checked.prog.funcs[f]? = some fn) :
    false = Tryz.pinned.checked.prog.looks [] ∧ ∀ (j : Nat) t, fn.params[j]? = some t → Tryz.pinned.checked.prog.wantsStandIn t = false := by
  obtain rfl : f = 4 := Option.some.inj ((show Tryz.prog.funcNamed "strongbox/strongboxlaw.Macs" = some 4 by kernel_rfl).symm.trans hf) |>.symm
  obtain rfl : fn = Tryz.f4 := (Option.some.inj (Tryz.func4.symm.trans hfn)).symm
  refine ⟨by kernel_rfl, fun j t ht => ?_⟩
  rw [Tryz.params4] at ht
  obtain rfl : t = 22 := by simpa using Array.mem_of_getElem? ht
  exact (show Tryz.prog.wantsStandIn 22 = false by kernel_rfl)

theorem macs_card : Rows.MacsCardSaid :=
  Claim7.holds_tied_plain_at .later [] _ _ _ _ macs_said (fun _ h => by cases h) (by kernel_rfl) (fun _ h => by cases h) macs_row_tie rfl ⟨rfl, rfl⟩ (by kernel_rfl) rfl macs_plain (by kernel_rfl)
end Go.Proofs.YtpogfcfgbnccjaaGreatDoor
