import Derived.Test.YtocoggofjlipeaaGreatDoorM2
namespace Go.Proofs.YtocoggofjlipeaaGreatDoor
open Go.RowKit

theorem MRep.lt' {w : World} {b : Nat} {t : TypeId} {key l : List UInt8} (h : MRep w b t key l) : b < w.heap.size := by
  obtain ⟨_, _, _, _, h, _⟩ := h
  exact h.lt
theorem MRep.below' {w w' : World} {b : Nat} {t : TypeId} {key l : List UInt8} (h : MRep w b t key l) {B : Nat} (hb : Below B w w') (hB : b < B) : MRep w' b t key l := by
  obtain ⟨ci, co, h1, h2, h3, h4⟩ := h
  exact ⟨ci, co, h1, h2, h3.below hb hB, h4.below hb hB⟩
theorem blk_inj {w : World} {b : Nat} {t : TypeId} {c d : List Value} (h : Blk w b t c) (h' : Blk w b t d) : c = d := by
  unfold Blk at h h'
  rw [h] at h'
  injection h' with e
  injection e with e _ _
  exact congrArg Array.toList e
/-- The mac's two halves are one block. -/
theorem MRep.same {w : World} {b : Nat} {t : TypeId} {key l : List UInt8} (h : MRep w b t key l) : ∃ s k s' k', k.length = 64 ∧ k'.length = 64 ∧
    s = Sha.comps (padL key 0x36 ++ l) ((padL key 0x36 ++ l).length / 64) ∧ k.take ((padL key 0x36 ++ l).length % 64) = (padL key 0x36 ++ l).drop (64 * ((padL key 0x36 ++ l).length / 64)) ∧
    s' = Sha.comps (padL key 0x5c) ((padL key 0x5c).length / 64) ∧ k'.take ((padL key 0x5c).length % 64) = (padL key 0x5c).drop (64 * ((padL key 0x5c).length / 64)) ∧
    Blk w b t (hcells s k (padL key 0x36 ++ l).length ++ hcells s' k' (padL key 0x5c).length) := by
  obtain ⟨ci, co, h1, h2, ⟨k, hk, ht, hB⟩, ⟨k', hk', ht', hB'⟩⟩ := h
  refine ⟨_, k, _, k', hk, hk', rfl, ht, rfl, ht', ?_⟩
  have e : hcells (Sha.comps (padL key 0x36 ++ l) ((padL key 0x36 ++ l).length / 64)) k (padL key 0x36 ++ l).length ++ co = ci ++ hcells (Sha.comps (padL key 0x5c) ((padL key 0x5c).length / 64)) k' (padL key 0x5c).length := by
    simpa using blk_inj hB hB'
  have hl := List.append_inj e (by rw [hcells_len _ _ _ hk, h1])
  rw [← hl.2]
  simpa using hB

set_option maxRecDepth 100000 in
set_option maxHeartbeats 800000 in
theorem kwrite_any (b : Nat) (key l : List UInt8) (s : ByteArray) (w : World) (hn : l.length + s.size < 2 ^ 60) (hb : MRep w b 142 key l) (hk : KTab w) (h2 : 2 ≤ b) :
    Calls Tryz.prog 43 #[.pointer (some ⟨b, 0, none⟩), .string s] w fun e w' => e = .returned (.tuple #[]) ∧ MRep w' b 142 key (l ++ s.data.toList) ∧ w.grownBy w' (some b) := by
  obtain ⟨st, k, st', k', q1, q2, q3, q4, q5, q6, hB⟩ := hb.same
  have hpl := padL_len key 0x36
  have hr : HRep w b 142 [] (hcells st' k' (padL key 0x5c).length) (padL key 0x36 ++ l) := ⟨k, q1, q4, by rw [← q3]; simpa using hB⟩
  have HW := hide (hwrite_any b 142 [] (hcells st' k' (padL key 0x5c).length) (padL key 0x36 ++ l) s w (by rw [List.length_append, hpl]; omega) hr hk h2)
  have HF := hide (show ∀ w', HRep w' b 142 [] (hcells st' k' (padL key 0x5c).length) (padL key 0x36 ++ l ++ s.data.toList) → MRep w' b 142 key (l ++ s.data.toList) from fun w' h => by
    obtain ⟨kk, r1, r2, r3⟩ := h
    have hcl := hcells_len (Sha.comps (padL key 0x36 ++ l ++ s.data.toList) ((padL key 0x36 ++ l ++ s.data.toList).length / 64)) kk (padL key 0x36 ++ l ++ s.data.toList).length r1
    refine ⟨_, hcells st' k' (padL key 0x5c).length, hcl, hcells_len _ _ _ q2, ⟨kk, r1, by rw [← List.append_assoc]; exact r2, by rw [← List.append_assoc]; exact r3⟩, ⟨k', q2, q6, by rw [← q5]; simpa using r3⟩⟩)
  clear hb q1 q2 q3 q4 q5 q6 hB hpl hr hk
  go_enter Tryz.func43, Tryz.ntmps43
  go_wp2_with fail
  refine HW.out.mono ?_
  rintro e w1 ⟨rfl, h1, h3⟩
  have H1 := hide (HF.out _ h1)
  have H3 := hide h3
  clear h1 h3
  go_wp2
  go_end0
  exact ⟨rfl, H1.out, H3.out⟩

/-- The HMAC. -/
def macL (key l : List UInt8) : List UInt8 := Sha.sum (padL key 0x5c ++ Sha.sum (padL key 0x36 ++ l))
theorem macL_len (key l : List UInt8) : (macL key l).length = 32 := Sha.sum_len _

set_option maxRecDepth 100000 in
set_option maxHeartbeats 800000 in
theorem ksum_any (b : Nat) (key l : List UInt8) (w : World) (hn : l.length < 2 ^ 58) (hb : MRep w b 142 key l) (hk : KTab w) (h2 : 2 ≤ w.heap.size) :
    Calls Tryz.prog 44 #[.pointer (some ⟨b, 0, none⟩)] w fun e w' => e = .returned (.string ⟨(macL key l).toArray⟩) ∧ Below w.heap.size w w' := by
  have hbl := hb.lt'
  obtain ⟨ci, co, n1, n2, hr1, hr2⟩ := hb
  have hp1 := padL_len key 0x36
  have hp2 := padL_len key 0x5c
  have H1 := hide (hsum_any b 142 [] co (padL key 0x36 ++ l) w (by rw [List.length_append, hp1]; omega) hr1 hk h2)
  have hs1 := Sha.sum_len (padL key 0x36 ++ l)
  have hdef : macL key l = Sha.sum (padL key 0x5c ++ Sha.sum (padL key 0x36 ++ l)) := rfl
  generalize Sha.sum (padL key 0x36 ++ l) = hh at *
  obtain ⟨hs, hhs⟩ : ∃ hs : ByteArray, hs = ⟨hh.toArray⟩ := ⟨_, rfl⟩
  have hhl : hs.data.toList = hh := by rw [hhs]
  have hhz : hs.size = 32 := by rw [hhs]; show hh.toArray.size = 32; rw [List.size_toArray]; exact hs1
  rw [← hhs] at H1
  rw [← hhl] at hdef
  generalize padL key 0x5c = po at *
  have HD := hide hdef
  have HR2 := hide hr2
  have HP2 := hide hp2
  clear hr1 hr2 hp1 hp2 hs1 hhs hhl hdef n2
  go_enter Tryz.func44, Tryz.ntmps44
  go_wp2_with fail
  refine H1.out.mono ?_
  rintro e w1 ⟨rfl, hb1⟩
  have hcp := copy_any b 142 ci [] po w1 (HR2.out.below hb1 hbl)
  rw [n1] at hcp
  have HCP := hide hcp
  have hk1 := hk.below hb1 h2
  have h21 : 2 ≤ w1.heap.size := Nat.le_trans h2 hb1.size
  have HB1 := hide hb1
  clear hb1 hcp hk H1
  go_wp2_with fail
  refine HCP.out.mono ?_
  rintro e w2 ⟨rfl, hr, hb2⟩
  have hk2 := hk1.below hb2 h21
  have hl2 := hr.lt
  have HW := hide (hwrite_any w1.heap.size 135 [] [] po hs w2 (by rw [HP2.out, hhz]; decide) hr hk2 h21)
  have HB2 := hide (HB1.out.trans (hb2.mono HB1.out.size))
  have hge : w.heap.size ≤ w1.heap.size := HB1.out.size
  clear hr hb2 hk1 HCP HB1
  generalize w1.heap.size = nb at *
  go_wp2_with fail
  refine HW.out.mono ?_
  rintro e w3 ⟨rfl, hr3, hg3⟩
  have hb3 : Below w.heap.size w w3 := HB2.out.trans (RowKit.Below.of_grown hg3 hge (by omega))
  have hb23 : Below nb w2 w3 := RowKit.Below.of_grown hg3 (Nat.le_refl _) (by omega)
  have hk3 := hk2.below hb23 h21
  have hsz3 := hr3.lt
  have HS := hide (hsum_any nb 135 [] [] (po ++ hs.data.toList) w3 (by rw [List.length_append, HP2.out, Array.length_toList, show hs.data.size = hs.size from rfl, hhz]; decide) hr3 hk3 (by omega))
  rw [← HD.out] at HS
  have HB3 := hide hb3
  clear hr3 hg3 hb3 hb23 hk2 hk3 HB2 HW
  go_wp2_with fail
  refine HS.out.mono ?_
  rintro e w4 ⟨rfl, hb4⟩
  have HB4 := hide (HB3.out.trans (hb4.mono HB3.out.size))
  clear hb4
  go_wp2
  go_ret
  exact ⟨rfl, HB4.out⟩

set_option maxRecDepth 100000 in
set_option maxHeartbeats 800000 in
theorem hmac_any (key text : ByteArray) (w : World) (hkey : key.size < 2 ^ 57) (htext : text.size < 2 ^ 57) (hk : KTab w) (hH : HTab w) (h2 : 2 ≤ w.heap.size) :
    Calls Tryz.prog 16 #[.string key, .string text] w fun e w' => e = .returned (.string ⟨(macL key.data.toList text.data.toList).toArray⟩) ∧ Below w.heap.size w w' := by
  have H1 := hide (kbegin_any key w (by omega) hk hH h2)
  have htl : text.data.toList.length = text.size := by rw [Array.length_toList]; rfl
  have HTL := hide htl
  clear htl
  go_enter Tryz.func16, Tryz.ntmps16
  go_wp2_with fail
  refine H1.out.mono ?_
  rintro e w1 ⟨b, rfl, hge, hm1, hb1⟩
  have hk1 := hk.below hb1 h2
  have hl1 := hm1.lt'
  have HW := hide (kwrite_any b key.data.toList [] text w1 (by show 0 + text.size < 2 ^ 60; omega) hm1 hk1 (by omega))
  have HB1 := hide hb1
  clear hm1 hb1 hk hH H1
  go_wp2_with fail
  refine HW.out.mono ?_
  rintro e w2 ⟨rfl, hm2, hg2⟩
  rw [List.nil_append] at hm2
  have hb2 : Below w.heap.size w1 w2 := RowKit.Below.of_grown hg2 hge (by omega)
  have hk2 := hk1.below hb2 h2
  have hl2 := hm2.lt'
  have HS := hide (ksum_any b key.data.toList text.data.toList w2 (by rw [HTL.out]; omega) hm2 hk2 (by omega))
  have HB2 := hide (HB1.out.trans hb2)
  clear hm2 hg2 hb2 hk1 hk2 HW HB1
  go_wp2_with fail
  refine HS.out.mono ?_
  rintro e w3 ⟨rfl, hb3⟩
  have HB3 := hide (HB2.out.trans (hb3.mono HB2.out.size))
  clear hb3
  go_wp2
  go_ret
  exact ⟨rfl, HB3.out⟩
set_option maxHeartbeats 800000 in
theorem extract_any (key text : ByteArray) (w : World) (hkey : key.size < 2 ^ 57) (htext : text.size < 2 ^ 57) (hk : KTab w) (hH : HTab w) (h2 : 2 ≤ w.heap.size) :
    Calls Tryz.prog 18 #[.string key, .string text] w fun e w' => e = .returned (.string ⟨(macL key.data.toList text.data.toList).toArray⟩) ∧ Below w.heap.size w w' := by
  have H1 := hide (hmac_any key text w hkey htext hk hH h2)
  clear hk hH
  go_enter Tryz.func18, Tryz.ntmps18
  go_wp2_with fail
  refine H1.out.mono ?_
  rintro e w1 ⟨rfl, hb1⟩
  have HB1 := hide hb1
  clear hb1
  go_wp2
  go_ret
  exact ⟨rfl, HB1.out⟩

theorem ba_app2 (l : List UInt8) (s : ByteArray) : ((⟨l.toArray⟩ : ByteArray) ++ s).data.toList = l ++ s.data.toList := by
  simp [ByteArray.data_append]
theorem ba_size (l : List UInt8) : (⟨l.toArray⟩ : ByteArray).size = l.length := List.size_toArray

set_option maxRecDepth 100000 in
set_option maxHeartbeats 800000 in
theorem refHmac_any (key text : ByteArray) (w : World) (hkey : key.size ≤ 1090000000) (htext : text.size ≤ 1090000000) :
    Calls Tryz.prog 17 #[.string key, .string text] w fun e w' => e = .returned (.string ⟨(macL key.data.toList text.data.toList).toArray⟩) ∧ Below w.heap.size w w' := by
  have hp1 := padL_len key.data.toList 0x36
  have hp2 := padL_len key.data.toList 0x5c
  have P1 := hide (fun w => padK_any key 0x36 w (by omega))
  have P2 := hide (fun w => padK_any key 0x5c w (by omega))
  have hdef : macL key.data.toList text.data.toList = Sha.sum (padL key.data.toList 0x5c ++ Sha.sum (padL key.data.toList 0x36 ++ text.data.toList)) := rfl
  generalize padL key.data.toList 0x36 = pi at *
  generalize padL key.data.toList 0x5c = po at *
  obtain ⟨si, hsi⟩ : ∃ si : ByteArray, si = ⟨pi.toArray⟩ := ⟨_, rfl⟩
  obtain ⟨so, hso⟩ : ∃ so : ByteArray, so = ⟨po.toArray⟩ := ⟨_, rfl⟩
  rw [← hsi] at P1
  rw [← hso] at P2
  have zi : si.size = 64 := by rw [hsi, ba_size, hp1]
  have zo : so.size = 64 := by rw [hso, ba_size, hp2]
  have li : (si ++ text).data.toList = pi ++ text.data.toList := by rw [hsi]; exact ba_app2 _ _
  have Z1 : (si ++ text).size ≤ 1099511627 := by
    show (si ++ text).data.size ≤ _
    rw [← Array.length_toList, li, List.length_append, hp1, Array.length_toList]
    show 64 + text.size ≤ _
    omega
  have S1 := hide (fun w => refSum_any (si ++ text) w Z1)
  rw [li] at S1
  have hs1 := Sha.sum_len (pi ++ text.data.toList)
  generalize Sha.sum (pi ++ text.data.toList) = hh at *
  obtain ⟨sh, hsh⟩ : ∃ sh : ByteArray, sh = ⟨hh.toArray⟩ := ⟨_, rfl⟩
  rw [← hsh] at S1
  have zh : sh.size = 32 := by rw [hsh, ba_size, hs1]
  have lo : (so ++ sh).data.toList = po ++ hh := by rw [hso, hsh]; exact ba_app2 _ _
  have Z2 : (so ++ sh).size ≤ 1099511627 := by
    show (so ++ sh).data.size ≤ _
    rw [← Array.length_toList, lo, List.length_append, hp2, hs1]
    decide
  have S2 := hide (fun w => refSum_any (so ++ sh) w Z2)
  rw [lo, ← hdef] at S2
  have j1 : ¬ 9223372036854775807 < si.size + text.size := by omega
  have j2 : ¬ 9223372036854775807 < so.size + sh.size := by omega
  clear hp1 hp2 hdef hsi hso hsh li lo hs1 Z1 Z2 zi zo zh
  go_enter Tryz.func17, Tryz.ntmps17
  go_wp2_with fail
  refine (P1.out _).mono ?_
  rintro e w1 ⟨rfl, hb1⟩
  have HB1 := hide hb1
  clear hb1 P1
  go_wp2_with fail
  refine (P2.out _).mono ?_
  rintro e w2 ⟨rfl, hb2⟩
  have HB2 := hide (HB1.out.trans (hb2.mono HB1.out.size))
  clear hb2 P2 HB1
  go_wp2_with fail
  refine (S1.out _).mono ?_
  rintro e w3 ⟨rfl, hb3⟩
  have HB3 := hide (HB2.out.trans (hb3.mono HB2.out.size))
  clear hb3 S1 HB2
  go_wp2_with fail
  refine (S2.out _).mono ?_
  rintro e w4 ⟨rfl, hb4⟩
  have HB4 := hide (HB3.out.trans (hb4.mono HB3.out.size))
  clear hb4 S2 HB3
  go_wp2
  go_ret
  exact ⟨rfl, HB4.out⟩
end Go.Proofs.YtocoggofjlipeaaGreatDoor
