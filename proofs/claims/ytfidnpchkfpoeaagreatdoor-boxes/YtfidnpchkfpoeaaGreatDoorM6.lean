import Derived.Test.YtfidnpchkfpoeaaGreatDoorM2
import Derived.Lib.AppendStr
namespace Go.Proofs.YtfidnpchkfpoeaaGreatDoor
open Go.RowKit

theorem MRep.lt' {w : World} {b : Nat} {t : TypeId} {key l : List UInt8} (h : MRep w b t key l) : b < w.heap.size := by
  obtain ⟨_, _, _, _, h, _⟩ := h
  exact h.lt
theorem MRep.below' {w w' : World} {b : Nat} {t : TypeId} {key l : List UInt8} (h : MRep w b t key l) {B : Nat} (hb : Below B w w') (hB : b < B) : MRep w' b t key l := by
  obtain ⟨ci, co, h1, h2, h3, h4⟩ := h
  exact ⟨ci, co, h1, h2, h3.below hb hB, h4.below hb hB⟩
theorem blk_inj {w : World} {b : Nat} {t : TypeId} {c d : List Value} (h : Blk w b t c) (h' : Blk w b t d) : c = d := by
  unfold Blk at h h'
  rw [h] at h'
  injection h' with e
  injection e with e _ _
  exact congrArg Array.toList e
/-- The mac's two halves are one block. -/
theorem MRep.same {w : World} {b : Nat} {t : TypeId} {key l : List UInt8} (h : MRep w b t key l) : ∃ s k s' k', k.length = 64 ∧ k'.length = 64 ∧
    s = Sha.comps (padL key 0x36 ++ l) ((padL key 0x36 ++ l).length / 64) ∧ k.take ((padL key 0x36 ++ l).length % 64) = (padL key 0x36 ++ l).drop (64 * ((padL key 0x36 ++ l).length / 64)) ∧
    s' = Sha.comps (padL key 0x5c) ((padL key 0x5c).length / 64) ∧ k'.take ((padL key 0x5c).length % 64) = (padL key 0x5c).drop (64 * ((padL key 0x5c).length / 64)) ∧
    Blk w b t (hcells s k (padL key 0x36 ++ l).length ++ hcells s' k' (padL key 0x5c).length) := by
  obtain ⟨ci, co, h1, h2, ⟨k, hk, ht, hB⟩, ⟨k', hk', ht', hB'⟩⟩ := h
  refine ⟨_, k, _, k', hk, hk', rfl, ht, rfl, ht', ?_⟩
  have e : hcells (Sha.comps (padL key 0x36 ++ l) ((padL key 0x36 ++ l).length / 64)) k (padL key 0x36 ++ l).length ++ co = ci ++ hcells (Sha.comps (padL key 0x5c) ((padL key 0x5c).length / 64)) k' (padL key 0x5c).length := by
    simpa using blk_inj hB hB'
  have hl := List.append_inj e (by rw [hcells_len _ _ _ hk, h1])
  rw [← hl.2]
  simpa using hB

set_option maxRecDepth 100000 in
set_option maxHeartbeats 800000 in
theorem kwrite_any (b : Nat) (key l : List UInt8) (s : ByteArray) (w : World) (hn : l.length + s.size < 2 ^ 60) (hb : MRep w b 142 key l) (hk : KTab w) (h2 : 2 ≤ b) :
    Calls Tryz.prog 46 #[.pointer (some ⟨b, 0, none⟩), .string s] w fun e w' => e = .returned (.tuple #[]) ∧ MRep w' b 142 key (l ++ s.data.toList) ∧ w.grownBy w' (some b) := by
  obtain ⟨st, k, st', k', q1, q2, q3, q4, q5, q6, hB⟩ := hb.same
  have hpl := padL_len key 0x36
  have hr : HRep w b 142 [] (hcells st' k' (padL key 0x5c).length) (padL key 0x36 ++ l) := ⟨k, q1, q4, by rw [← q3]; simpa using hB⟩
  have HW := hide (hwrite_any b 142 [] (hcells st' k' (padL key 0x5c).length) (padL key 0x36 ++ l) s w (by rw [List.length_append, hpl]; omega) hr hk h2)
  have HF := hide (show ∀ w', HRep w' b 142 [] (hcells st' k' (padL key 0x5c).length) (padL key 0x36 ++ l ++ s.data.toList) → MRep w' b 142 key (l ++ s.data.toList) from fun w' h => by
    obtain ⟨kk, r1, r2, r3⟩ := h
    have hcl := hcells_len (Sha.comps (padL key 0x36 ++ l ++ s.data.toList) ((padL key 0x36 ++ l ++ s.data.toList).length / 64)) kk (padL key 0x36 ++ l ++ s.data.toList).length r1
    refine ⟨_, hcells st' k' (padL key 0x5c).length, hcl, hcells_len _ _ _ q2, ⟨kk, r1, by rw [← List.append_assoc]; exact r2, by rw [← List.append_assoc]; exact r3⟩, ⟨k', q2, q6, by rw [← q5]; simpa using r3⟩⟩)
  clear hb q1 q2 q3 q4 q5 q6 hB hpl hr hk
  go_enter Tryz.func46, Tryz.ntmps46
  go_wp2_with fail
  refine HW.out.mono ?_
  rintro e w1 ⟨rfl, h1, h3⟩
  have H1 := hide (HF.out _ h1)
  have H3 := hide h3
  clear h1 h3
  go_wp2
  go_end0
  exact ⟨rfl, H1.out, H3.out⟩

/-- The HMAC. -/
def macL (key l : List UInt8) : List UInt8 := Sha.sum (padL key 0x5c ++ Sha.sum (padL key 0x36 ++ l))
theorem macL_len (key l : List UInt8) : (macL key l).length = 32 := Sha.sum_len _

set_option maxRecDepth 100000 in
set_option maxHeartbeats 800000 in
theorem ksum_any (b : Nat) (key l : List UInt8) (w : World) (hn : l.length < 2 ^ 58) (hb : MRep w b 142 key l) (hk : KTab w) (h2 : 2 ≤ w.heap.size) :
    Calls Tryz.prog 47 #[.pointer (some ⟨b, 0, none⟩)] w fun e w' => e = .returned (.string ⟨(macL key l).toArray⟩) ∧ Below w.heap.size w w' := by
  have hbl := hb.lt'
  obtain ⟨ci, co, n1, n2, hr1, hr2⟩ := hb
  have hp1 := padL_len key 0x36
  have hp2 := padL_len key 0x5c
  have H1 := hide (hsum_any b 142 [] co (padL key 0x36 ++ l) w (by rw [List.length_append, hp1]; omega) hr1 hk h2)
  have hs1 := Sha.sum_len (padL key 0x36 ++ l)
  have hdef : macL key l = Sha.sum (padL key 0x5c ++ Sha.sum (padL key 0x36 ++ l)) := rfl
  generalize Sha.sum (padL key 0x36 ++ l) = hh at *
  obtain ⟨hs, hhs⟩ : ∃ hs : ByteArray, hs = ⟨hh.toArray⟩ := ⟨_, rfl⟩
  have hhl : hs.data.toList = hh := by rw [hhs]
  have hhz : hs.size = 32 := by rw [hhs]; show hh.toArray.size = 32; rw [List.size_toArray]; exact hs1
  rw [← hhs] at H1
  rw [← hhl] at hdef
  generalize padL key 0x5c = po at *
  have HD := hide hdef
  have HR2 := hide hr2
  have HP2 := hide hp2
  clear hr1 hr2 hp1 hp2 hs1 hhs hhl hdef n2
  go_enter Tryz.func47, Tryz.ntmps47
  go_wp2_with fail
  refine H1.out.mono ?_
  rintro e w1 ⟨rfl, hb1⟩
  have hcp := copy_any b 142 ci [] po w1 (HR2.out.below hb1 hbl)
  rw [n1] at hcp
  have HCP := hide hcp
  have hk1 := hk.below hb1 h2
  have h21 : 2 ≤ w1.heap.size := Nat.le_trans h2 hb1.size
  have HB1 := hide hb1
  clear hb1 hcp hk H1
  go_wp2_with fail
  refine HCP.out.mono ?_
  rintro e w2 ⟨rfl, hr, hb2⟩
  have hk2 := hk1.below hb2 h21
  have hl2 := hr.lt
  have HW := hide (hwrite_any w1.heap.size 135 [] [] po hs w2 (by rw [HP2.out, hhz]; decide) hr hk2 h21)
  have HB2 := hide (HB1.out.trans (hb2.mono HB1.out.size))
  have hge : w.heap.size ≤ w1.heap.size := HB1.out.size
  clear hr hb2 hk1 HCP HB1
  generalize w1.heap.size = nb at *
  go_wp2_with fail
  refine HW.out.mono ?_
  rintro e w3 ⟨rfl, hr3, hg3⟩
  have hb3 : Below w.heap.size w w3 := HB2.out.trans (RowKit.Below.of_grown hg3 hge (by omega))
  have hb23 : Below nb w2 w3 := RowKit.Below.of_grown hg3 (Nat.le_refl _) (by omega)
  have hk3 := hk2.below hb23 h21
  have hsz3 := hr3.lt
  have HS := hide (hsum_any nb 135 [] [] (po ++ hs.data.toList) w3 (by rw [List.length_append, HP2.out, Array.length_toList, show hs.data.size = hs.size from rfl, hhz]; decide) hr3 hk3 (by omega))
  rw [← HD.out] at HS
  have HB3 := hide hb3
  clear hr3 hg3 hb3 hb23 hk2 hk3 HB2 HW
  go_wp2_with fail
  refine HS.out.mono ?_
  rintro e w4 ⟨rfl, hb4⟩
  have HB4 := hide (HB3.out.trans (hb4.mono HB3.out.size))
  clear hb4
  go_wp2
  go_ret
  exact ⟨rfl, HB4.out⟩

set_option maxRecDepth 100000 in
set_option maxHeartbeats 800000 in
theorem hmac_any (key text : ByteArray) (w : World) (hkey : key.size < 2 ^ 57) (htext : text.size < 2 ^ 57) (hk : KTab w) (hH : HTab w) (h2 : 2 ≤ w.heap.size) :
    Calls Tryz.prog 19 #[.string key, .string text] w fun e w' => e = .returned (.string ⟨(macL key.data.toList text.data.toList).toArray⟩) ∧ Below w.heap.size w w' := by
  have H1 := hide (kbegin_any key w (by omega) hk hH h2)
  have htl : text.data.toList.length = text.size := by rw [Array.length_toList]; rfl
  have HTL := hide htl
  clear htl
  go_enter Tryz.func19, Tryz.ntmps19
  go_wp2_with fail
  refine H1.out.mono ?_
  rintro e w1 ⟨b, rfl, hge, hm1, hb1⟩
  have hk1 := hk.below hb1 h2
  have hl1 := hm1.lt'
  have HW := hide (kwrite_any b key.data.toList [] text w1 (by show 0 + text.size < 2 ^ 60; omega) hm1 hk1 (by omega))
  have HB1 := hide hb1
  clear hm1 hb1 hk hH H1
  go_wp2_with fail
  refine HW.out.mono ?_
  rintro e w2 ⟨rfl, hm2, hg2⟩
  rw [List.nil_append] at hm2
  have hb2 : Below w.heap.size w1 w2 := RowKit.Below.of_grown hg2 hge (by omega)
  have hk2 := hk1.below hb2 h2
  have hl2 := hm2.lt'
  have HS := hide (ksum_any b key.data.toList text.data.toList w2 (by rw [HTL.out]; omega) hm2 hk2 (by omega))
  have HB2 := hide (HB1.out.trans hb2)
  clear hm2 hg2 hb2 hk1 hk2 HW HB1
  go_wp2_with fail
  refine HS.out.mono ?_
  rintro e w3 ⟨rfl, hb3⟩
  have HB3 := hide (HB2.out.trans (hb3.mono HB2.out.size))
  clear hb3
  go_wp2
  go_ret
  exact ⟨rfl, HB3.out⟩
set_option maxHeartbeats 800000 in
theorem extract_any (key text : ByteArray) (w : World) (hkey : key.size < 2 ^ 57) (htext : text.size < 2 ^ 57) (hk : KTab w) (hH : HTab w) (h2 : 2 ≤ w.heap.size) :
    Calls Tryz.prog 21 #[.string key, .string text] w fun e w' => e = .returned (.string ⟨(macL key.data.toList text.data.toList).toArray⟩) ∧ Below w.heap.size w w' := by
  have H1 := hide (hmac_any key text w hkey htext hk hH h2)
  clear hk hH
  go_enter Tryz.func21, Tryz.ntmps21
  go_wp2_with fail
  refine H1.out.mono ?_
  rintro e w1 ⟨rfl, hb1⟩
  have HB1 := hide hb1
  clear hb1
  go_wp2
  go_ret
  exact ⟨rfl, HB1.out⟩

theorem ba_app2 (l : List UInt8) (s : ByteArray) : ((⟨l.toArray⟩ : ByteArray) ++ s).data.toList = l ++ s.data.toList := by
  simp [ByteArray.data_append]
theorem ba_size (l : List UInt8) : (⟨l.toArray⟩ : ByteArray).size = l.length := List.size_toArray

set_option maxRecDepth 100000 in
set_option maxHeartbeats 800000 in
theorem refHmac_any (key text : ByteArray) (w : World) (hkey : key.size ≤ 1090000000) (htext : text.size ≤ 1090000000) :
    Calls Tryz.prog 20 #[.string key, .string text] w fun e w' => e = .returned (.string ⟨(macL key.data.toList text.data.toList).toArray⟩) ∧ Below w.heap.size w w' := by
  have hp1 := padL_len key.data.toList 0x36
  have hp2 := padL_len key.data.toList 0x5c
  have P1 := hide (fun w => padK_any key 0x36 w (by omega))
  have P2 := hide (fun w => padK_any key 0x5c w (by omega))
  have hdef : macL key.data.toList text.data.toList = Sha.sum (padL key.data.toList 0x5c ++ Sha.sum (padL key.data.toList 0x36 ++ text.data.toList)) := rfl
  generalize padL key.data.toList 0x36 = pi at *
  generalize padL key.data.toList 0x5c = po at *
  obtain ⟨si, hsi⟩ : ∃ si : ByteArray, si = ⟨pi.toArray⟩ := ⟨_, rfl⟩
  obtain ⟨so, hso⟩ : ∃ so : ByteArray, so = ⟨po.toArray⟩ := ⟨_, rfl⟩
  rw [← hsi] at P1
  rw [← hso] at P2
  have zi : si.size = 64 := by rw [hsi, ba_size, hp1]
  have zo : so.size = 64 := by rw [hso, ba_size, hp2]
  have li : (si ++ text).data.toList = pi ++ text.data.toList := by rw [hsi]; exact ba_app2 _ _
  have Z1 : (si ++ text).size ≤ 1099511627 := by
    show (si ++ text).data.size ≤ _
    rw [← Array.length_toList, li, List.length_append, hp1, Array.length_toList]
    show 64 + text.size ≤ _
    omega
  have S1 := hide (fun w => refSum_any (si ++ text) w Z1)
  rw [li] at S1
  have hs1 := Sha.sum_len (pi ++ text.data.toList)
  generalize Sha.sum (pi ++ text.data.toList) = hh at *
  obtain ⟨sh, hsh⟩ : ∃ sh : ByteArray, sh = ⟨hh.toArray⟩ := ⟨_, rfl⟩
  rw [← hsh] at S1
  have zh : sh.size = 32 := by rw [hsh, ba_size, hs1]
  have lo : (so ++ sh).data.toList = po ++ hh := by rw [hso, hsh]; exact ba_app2 _ _
  have Z2 : (so ++ sh).size ≤ 1099511627 := by
    show (so ++ sh).data.size ≤ _
    rw [← Array.length_toList, lo, List.length_append, hp2, hs1]
    decide
  have S2 := hide (fun w => refSum_any (so ++ sh) w Z2)
  rw [lo, ← hdef] at S2
  have j1 : ¬ 9223372036854775807 < si.size + text.size := by omega
  have j2 : ¬ 9223372036854775807 < so.size + sh.size := by omega
  clear hp1 hp2 hdef hsi hso hsh li lo hs1 Z1 Z2 zi zo zh
  go_enter Tryz.func20, Tryz.ntmps20
  go_wp2_with fail
  refine (P1.out _).mono ?_
  rintro e w1 ⟨rfl, hb1⟩
  have HB1 := hide hb1
  clear hb1 P1
  go_wp2_with fail
  refine (P2.out _).mono ?_
  rintro e w2 ⟨rfl, hb2⟩
  have HB2 := hide (HB1.out.trans (hb2.mono HB1.out.size))
  clear hb2 P2 HB1
  go_wp2_with fail
  refine (S1.out _).mono ?_
  rintro e w3 ⟨rfl, hb3⟩
  have HB3 := hide (HB2.out.trans (hb3.mono HB2.out.size))
  clear hb3 S1 HB2
  go_wp2_with fail
  refine (S2.out _).mono ?_
  rintro e w4 ⟨rfl, hb4⟩
  have HB4 := hide (HB3.out.trans (hb4.mono HB3.out.size))
  clear hb4 S2 HB3
  go_wp2
  go_ret
  exact ⟨rfl, HB4.out⟩
end Go.Proofs.YtfidnpchkfpoeaaGreatDoor
namespace Go.Proofs.YtfidnpchkfpoeaaGreatDoor
open Go.RowKit

theorem one_str (i : Nat) (hi : i ≤ 255) (w : World) : (convert 62 9 (.slice (some ⟨w.heap.size, 0, none⟩) 1 1)).run Tryz.prog (w.alloc (.cells #[.int .u8 (i : Int)] 5)) = .ok (.string ⟨#[UInt8.ofNat i]⟩) (w.alloc (.cells #[.int .u8 (i : Int)] 5)) := by
  have hB : Blk (w.alloc (.cells #[.int .u8 (i : Int)] 5)) w.heap.size 5 (u8L [UInt8.ofNat i]) := Blk.new rfl (by simp [u8L]; omega)
  exact blk_str hB 1 1 rfl

set_option maxHeartbeats 400000 in
theorem oneByte_any (i : Nat) (hi : i ≤ 255) (w : World) :
    Calls Tryz.prog 106 #[.int .i64 (i : Int)] w fun e w' => e = .returned (.string ⟨#[UInt8.ofNat i]⟩) ∧ Below w.heap.size w w' := by
  have hcv := fun w => one_str i hi w
  have tw : IntKind.u8.wrap (i : Int) = (i : Int) := by show (i : Int) % 256 = _; omega
  have tm : (i : Int) % 256 = (i : Int) := by omega
  go_enter Tryz.func106, Tryz.ntmps106
  go_wp2
  go_ret
  exact ⟨rfl, (Below.refl _ _).alloc (Nat.le_refl _) _⟩

/-- T(k) of the expansion. -/
def expT (prk info : List UInt8) : Nat → List UInt8
  | 0 => []
  | k + 1 => macL prk (expT prk info k ++ info ++ [UInt8.ofNat (k + 1)])
def expO (prk info : List UInt8) : Nat → List UInt8
  | 0 => []
  | k + 1 => expO prk info k ++ expT prk info (k + 1)
theorem expT_len (prk info : List UInt8) (k : Nat) : (expT prk info k).length ≤ 32 := by
  cases k with
  | zero => exact Nat.zero_le _
  | succ k => exact Nat.le_of_eq (macL_len _ _)
theorem expO_len (prk info : List UInt8) : ∀ k, (expO prk info k).length = 32 * k
  | 0 => rfl
  | k + 1 => by
    show (expO prk info k ++ macL _ _).length = _
    rw [List.length_append, expO_len prk info k, macL_len]; omega

theorem ba_list (a b : ByteArray) : (a ++ b).data.toList = a.data.toList ++ b.data.toList := by simp [ByteArray.data_append]
theorem ba_len (a : ByteArray) : a.data.toList.length = a.size := by rw [Array.length_toList]; rfl
theorem ba_sz (a b : ByteArray) : (a ++ b).size = a.size + b.size := by rw [← ba_len, ba_list, List.length_append, ba_len, ba_len]

set_option maxRecDepth 100000 in
set_option maxHeartbeats 800000 in
theorem expand_any (prk info : ByteArray) (n : Nat) (w : World) (hn : n ≤ 8160) (hprk : prk.size < 2 ^ 50) (hinfo : info.size < 2 ^ 50) (hk : KTab w) (hH : HTab w) (h2 : 2 ≤ w.heap.size) :
    Calls Tryz.prog 49 #[.string prk, .string info, .int .i64 (n : Int)] w fun e w' => e = .returned (.string ⟨((expO prk.data.toList info.data.toList ((n + 31) / 32)).take n).toArray⟩) ∧ Below w.heap.size w w' := by
  obtain ⟨i0, hi0, hz0, hz1, hz2⟩ := info_parts infoU8
  have HI0 := hide hi0
  have HZ0 := hide hz0
  have HZ1 := hide hz1
  have HZ2 := hide hz2
  have HTL := hide (expT_len prk.data.toList info.data.toList)
  have HOL := hide (expO_len prk.data.toList info.data.toList)
  have HT := hide (show ∀ k, expT prk.data.toList info.data.toList (k + 1) = macL prk.data.toList (expT prk.data.toList info.data.toList k ++ info.data.toList ++ [UInt8.ofNat (k + 1)]) from fun _ => rfl)
  have HO := hide (show ∀ k, expO prk.data.toList info.data.toList (k + 1) = expO prk.data.toList info.data.toList k ++ expT prk.data.toList info.data.toList (k + 1) from fun _ => rfl)
  have HT0 := hide (show expT prk.data.toList info.data.toList 0 = [] from rfl)
  have HO0 := hide (show expO prk.data.toList info.data.toList 0 = [] from rfl)
  generalize expT prk.data.toList info.data.toList = T at *
  generalize expO prk.data.toList info.data.toList = O at *
  generalize hK : (n + 31) / 32 = K at *
  have HKN := hide hK
  clear hi0 hz0 hz1 hz2 hK
  go_enter Tryz.func49, Tryz.ntmps49
  go_wp2
  go_loopw [7, 8, 9] (fun vo vl vi wr => ∃ (k i m : Nat) (last : ByteArray), k ≤ K ∧ i = k + 1 ∧ m = 32 * k ∧ vi = .int .i64 (i : Nat) ∧ vl = .string last ∧ last.data.toList = T k ∧ wr.ownsRow w.heap.size 5 1 vo m (u8L (O k)) ∧ Below w.heap.size w wr ∧ vo ≠ .slice none 0 0) (fun _ _ i _ => 300 - (intOf i).toNat)
  case atStart =>
    refine ⟨0, 1, 0, ⟨#[]⟩, by omega, rfl, rfl, rfl, rfl, by rw [HT0.out], ?_, (Below.refl _ _).alloc (Nat.le_refl _) _, by simp⟩
    rw [HO0.out]
    exact ⟨rfl, .inr ⟨w.heap.size, 0, #[], rfl, Nat.le_refl _, heap_alloc_new w _, Nat.le_refl _, by decide, rfl, rfl⟩⟩
  case round =>
    obtain ⟨k, i, m, last, hkK, hik, hmk, rfl, rfl, hlast, hown, hbe, hne⟩ := hrel
    obtain ⟨ao, cap, rfl⟩ : ∃ ao cap, u7 = .slice ao m cap := by
      rcases hown.2 with ⟨rfl, rfl⟩ | ⟨g, cap, cur, rfl, _⟩
      · exact ⟨none, 0, rfl⟩
      · exact ⟨_, cap, rfl⟩
    have hKN := HKN.out
    by_cases hlt : m < n
    · have hi255 : i ≤ 255 := by omega
      have hll : last.size ≤ 32 := by rw [← ba_len, hlast]; exact HTL.out k
      have ls : (last ++ info ++ (⟨#[UInt8.ofNat i]⟩ : ByteArray)).data.toList = T k ++ info.data.toList ++ [UInt8.ofNat (k + 1)] := by rw [ba_list, ba_list, hlast, hik]
      have zs : (last ++ info ++ (⟨#[UInt8.ofNat i]⟩ : ByteArray)).size = last.size + info.size + 1 := by rw [ba_sz, ba_sz]; rfl
      have j1 : ¬ 9223372036854775807 < last.size + info.size := by omega
      have j2 : ¬ 9223372036854775807 < (last ++ info).size + (⟨#[UInt8.ofNat i]⟩ : ByteArray).size := by rw [ba_sz]; show ¬ 9223372036854775807 < last.size + info.size + 1; omega
      have hkr := hk.below hbe h2
      have hHr := hH.below hbe h2
      have h2r : 2 ≤ wr.heap.size := Nat.le_trans h2 hbe.size
      have HM := hide (fun w (a : KTab w) (b : HTab w) (c : 2 ≤ w.heap.size) => hmac_any prk (last ++ info ++ (⟨#[UInt8.ofNat i]⟩ : ByteArray)) w (by omega) (by rw [zs]; omega) a b c)
      rw [ls, ← HT.out k] at HM
      have hTl : (T (k + 1)).length = 32 := by rw [HT.out]; exact macL_len _ _
      obtain ⟨nl, hnl⟩ : ∃ nl : ByteArray, nl = ⟨(T (k + 1)).toArray⟩ := ⟨_, rfl⟩
      have hnll : nl.data.toList = T (k + 1) := by rw [hnl]
      have hnlz : nl.size = 32 := by rw [hnl, ba_size, hTl]
      rw [← hnl] at HM
      have HONE := hide (oneByte_any i hi255)
      have HOWN := hide hown
      have HBE := hide hbe
      have HNL := hide hnll
      have HIK := hide hik
      have HMK := hide hmk
      have HKR := hide hkr
      have HHR := hide hHr
      clear hown hbe ls zs hll hTl hnl hnll hlast hik hmk hkr hHr
      have jm : (m : Int) < (n : Int) := by omega
      generalize (⟨#[UInt8.ofNat i]⟩ : ByteArray) = ob at *
      go_wp2_with fail
      refine (HONE.out _).mono ?_
      rintro e w1 ⟨rfl, hb1⟩
      have HOWN1 := hide (HOWN.out.kept (hb1.grownBy none) (by cases hv : Value.ownBlock (.slice ao m cap) <;> simp))
      have HB1 := hide (HBE.out.trans (hb1.mono HBE.out.size))
      have HMM := hide (HM.out w1 (HKR.out.below hb1 h2r) (HHR.out.below hb1 h2r) (Nat.le_trans h2r hb1.size))
      clear hb1 HOWN HBE HM HONE HKR HHR
      go_wp2_with fail
      refine HMM.out.mono ?_
      rintro e w2 ⟨rfl, hb2⟩
      have HOWN2 := hide (HOWN1.out.kept (hb2.grownBy none) (by cases hv : Value.ownBlock (.slice ao m cap) <;> simp))
      have HB2 := hide (HB1.out.trans (hb2.mono HB1.out.size))
      clear hb2 HOWN1 HB1 HMM
      go_wp2_with (at_builtin; refine Lib.wpList_append_own_string (P := Tryz.prog) w2 rfl (.tmp 25) (.tmp 26) 62 9 rfl w.heap.size 5 i0 Tryz.underlying62 Tryz.underlying9 HI0.out HZ0.out HZ1.out HZ2.out _ m _ rfl HOWN2.out nl rfl ?_ ?_ HB2.out.size ?_; (unfold maxLen; omega); omega; intro v1 w3 hr1 hg1 hv1)
      go_roundw
      case rel =>
        refine ⟨k + 1, i + 1, m + nl.size, nl, by have := HMK.out; omega, by rw [HIK.out], by rw [HMK.out, hnlz]; omega, by go_num, rfl, HNL.out, ?_, ?_, fun e => hne (hv1.1 e).1⟩
        · have e : u8L (O (k + 1)) = u8L (O k) ++ Lib.strCells nl := by
            rw [HO.out, u8L_append, ← HNL.out]; rfl
          rw [e]
          exact hr1
        · exact Below.grown HB2.out hg1 HB2.out.size (fun k hk => (HOWN2.out.lt k hk).1)
      case measure => simp [intOf]; omega
    · have hkk : k = K := by omega
      have jm : ¬ (m : Int) < (n : Int) := by omega
      rcases hown.2 with ⟨hnil, _⟩ | ⟨g, cap', cur, hv, hg1, hg2, hg3, hg4, hg5, hg6⟩
      · exact absurd hnil hne
      · injection hv with e1 _ e3
        subst e1 e3
        subst hkk
        have hOl : ((O k).take n).length = n := by rw [List.length_take, HOL.out]; omega
        have hB : ∀ j u, (u8L (O k))[j]? = some u → wr.cell? ⟨g, j, none⟩ = some u := fun j u hu => by
          have := hown.cells (g := g) rfl j u hu
          rwa [Addr.add_mid, Nat.zero_add] at this
        have hcv : (convert 62 9 (.slice (some ⟨g, 0, none⟩) n cap)).run Tryz.prog wr = .ok (.string ⟨((O k).take n).toArray⟩) wr := by
          have h := run_convert_bytes_back (P := Tryz.prog) wr 62 9 5 ⟨g, 0, none⟩ cap ((O k).take n) Tryz.underlying62 Tryz.underlying5 Tryz.underlying9 (fun j hj => by
            rw [Addr.add_mid, Nat.zero_add]
            refine hB j _ ?_
            simp only [List.length_take] at hj
            rw [List.getElem_take]
            simp [u8L, show j < (O k).length by omega])
          rw [hOl] at h
          exact h
        have jc : n ≤ cap := by omega
        have HBE := hide hbe
        unfold maxLen at hg4
        generalize hout : (O k).take n = out at *
        have HOUT := hide hout
        clear hout
        clear hown hbe hlast hmk hik hkK hKN HTL HOL HT HO HKN hB hg1 hg2 hg5 hg6 hOl HT0 HO0
        go_wp2
        go_ret
        rw [HOUT.out]
        exact ⟨rfl, HBE.out⟩
end Go.Proofs.YtfidnpchkfpoeaaGreatDoor
namespace Go.Proofs.YtfidnpchkfpoeaaGreatDoor
open Go.RowKit

set_option maxHeartbeats 400000 in
theorem kExpand_bad (prk info : ByteArray) (n : Int) (w : World) (hn : n < 0 ∨ 8160 < n) :
    Calls Tryz.prog 22 #[.string prk, .string info, .int .i64 n] w fun e w' => e = .returned (.tuple #[.string ⟨#[]⟩, .int .i64 2]) ∧ w' = w := by
  rcases hn with hn | hn
  · go_enter Tryz.func22, Tryz.ntmps22
    go_wp2
    refine bodyPost_ret (results_tmp2 rfl _ _ _) rfl ?_
    exact ⟨rfl, rfl⟩
  · have hn0 : ¬ n < 0 := by omega
    go_enter Tryz.func22, Tryz.ntmps22
    go_wp2
    refine bodyPost_ret (results_tmp2 rfl _ _ _) rfl ?_
    exact ⟨rfl, rfl⟩
set_option maxHeartbeats 400000 in
theorem refExpand_bad (prk info : ByteArray) (n : Int) (w : World) (hn : n < 0 ∨ 8160 < n) :
    Calls Tryz.prog 23 #[.string prk, .string info, .int .i64 n] w fun e w' => e = .returned (.tuple #[.string ⟨#[]⟩, .int .i64 2]) ∧ w' = w := by
  rcases hn with hn | hn
  · go_enter Tryz.func23, Tryz.ntmps23
    go_wp2
    refine bodyPost_ret (results_tmp2 rfl _ _ _) rfl ?_
    exact ⟨rfl, rfl⟩
  · have hn0 : ¬ n < 0 := by omega
    go_enter Tryz.func23, Tryz.ntmps23
    go_wp2
    refine bodyPost_ret (results_tmp2 rfl _ _ _) rfl ?_
    exact ⟨rfl, rfl⟩

set_option maxHeartbeats 800000 in
theorem kExpand_any (prk info : ByteArray) (n : Nat) (w : World) (hn : n ≤ 8160) (hprk : prk.size < 2 ^ 50) (hinfo : info.size < 2 ^ 50) (hk : KTab w) (hH : HTab w) (h2 : 2 ≤ w.heap.size) :
    Calls Tryz.prog 22 #[.string prk, .string info, .int .i64 (n : Int)] w fun e w' => e = .returned (.tuple #[.string ⟨((expO prk.data.toList info.data.toList ((n + 31) / 32)).take n).toArray⟩, .int .i64 0]) ∧ Below w.heap.size w w' := by
  have j0 : ¬ (n : Int) < 0 := by omega
  have j1 : ¬ (8160 : Int) < (n : Int) := by omega
  have H := hide (expand_any prk info n w hn hprk hinfo hk hH h2)
  clear hk hH
  go_enter Tryz.func22, Tryz.ntmps22
  go_wp2_with fail
  refine H.out.mono ?_
  rintro e w1 ⟨rfl, hb1⟩
  have HB := hide hb1
  clear hb1
  go_wp2
  refine bodyPost_ret (results_tmp2 rfl _ _ _) rfl ?_
  exact ⟨rfl, HB.out⟩
theorem ba_ext {a b : ByteArray} (h : a.data.toList = b.data.toList) : a = b := ByteArray.ext (Array.toList_inj.1 h)
theorem ext_take (a : ByteArray) (n : Nat) : (a.extract 0 n).data.toList = a.data.toList.take n := by
  simp

set_option maxRecDepth 100000 in
set_option maxHeartbeats 800000 in
theorem refExpand_any (prk info : ByteArray) (n : Nat) (w : World) (hn : n ≤ 8160) (hprk : prk.size ≤ 1090000000) (hinfo : info.size ≤ 1080000000) :
    Calls Tryz.prog 23 #[.string prk, .string info, .int .i64 (n : Int)] w fun e w' => e = .returned (.tuple #[.string ⟨((expO prk.data.toList info.data.toList ((n + 31) / 32)).take n).toArray⟩, .int .i64 0]) ∧ Below w.heap.size w w' := by
  have j0 : ¬ (n : Int) < 0 := by omega
  have j1 : ¬ (8160 : Int) < (n : Int) := by omega
  have HTL := hide (expT_len prk.data.toList info.data.toList)
  have HOL := hide (expO_len prk.data.toList info.data.toList)
  have HT := hide (show ∀ k, expT prk.data.toList info.data.toList (k + 1) = macL prk.data.toList (expT prk.data.toList info.data.toList k ++ info.data.toList ++ [UInt8.ofNat (k + 1)]) from fun _ => rfl)
  have HO := hide (show ∀ k, expO prk.data.toList info.data.toList (k + 1) = expO prk.data.toList info.data.toList k ++ expT prk.data.toList info.data.toList (k + 1) from fun _ => rfl)
  have HT0 := hide (show expT prk.data.toList info.data.toList 0 = [] from rfl)
  have HO0 := hide (show expO prk.data.toList info.data.toList 0 = [] from rfl)
  generalize expT prk.data.toList info.data.toList = T at *
  generalize expO prk.data.toList info.data.toList = O at *
  generalize hK : (n + 31) / 32 = K at *
  have HKN := hide hK
  clear hK
  go_enter Tryz.func23, Tryz.ntmps23
  go_wp2
  go_loopw [8, 9, 10] (fun vo vl vi wr => ∃ (k i m : Nat) (last out : ByteArray), k ≤ K ∧ i = k + 1 ∧ m = 32 * k ∧ vi = .int .i64 (i : Nat) ∧ vl = .string last ∧ last.data.toList = T k ∧ vo = .string out ∧ out.data.toList = O k ∧ Below w.heap.size w wr) (fun _ _ i _ => 300 - (intOf i).toNat)
  case atStart => exact ⟨0, 1, 0, ⟨#[]⟩, ⟨#[]⟩, by omega, rfl, rfl, rfl, rfl, by rw [HT0.out], rfl, by rw [HO0.out], Below.refl _ _⟩
  case round =>
    obtain ⟨k, i, m, last, out, hkK, hik, hmk, rfl, rfl, hlast, rfl, hout, hbe⟩ := hrel
    have hKN := HKN.out
    have hoz : out.size = m := by rw [← ba_len, hout, HOL.out, hmk]
    by_cases hlt : m < n
    · have hi255 : i ≤ 255 := by omega
      have hll : last.size ≤ 32 := by rw [← ba_len, hlast]; exact HTL.out k
      have ls : (last ++ info ++ (⟨#[UInt8.ofNat i]⟩ : ByteArray)).data.toList = T k ++ info.data.toList ++ [UInt8.ofNat (k + 1)] := by rw [ba_list, ba_list, hlast, hik]
      have zs : (last ++ info ++ (⟨#[UInt8.ofNat i]⟩ : ByteArray)).size = last.size + info.size + 1 := by rw [ba_sz, ba_sz]; rfl
      have k1 : ¬ 9223372036854775807 < last.size + info.size := by omega
      have k2 : ¬ 9223372036854775807 < (last ++ info).size + (⟨#[UInt8.ofNat i]⟩ : ByteArray).size := by rw [ba_sz]; show ¬ 9223372036854775807 < last.size + info.size + 1; omega
      have HM := hide (fun w => refHmac_any prk (last ++ info ++ (⟨#[UInt8.ofNat i]⟩ : ByteArray)) w hprk (by rw [zs]; omega))
      rw [ls, ← HT.out k] at HM
      have hTl : (T (k + 1)).length = 32 := by rw [HT.out]; exact macL_len _ _
      obtain ⟨nl, hnl⟩ : ∃ nl : ByteArray, nl = ⟨(T (k + 1)).toArray⟩ := ⟨_, rfl⟩
      have hnll : nl.data.toList = T (k + 1) := by rw [hnl]
      have hnlz : nl.size = 32 := by rw [hnl, ba_size, hTl]
      have k3 : ¬ 9223372036854775807 < out.size + nl.size := by omega
      rw [← hnl] at HM
      have hcv := fun w => one_str i hi255 w
      have tw : IntKind.u8.wrap (i : Int) = (i : Int) := by show (i : Int) % 256 = _; omega
      have tm : (i : Int) % 256 = (i : Int) := by omega
      have HON := hide (show (out ++ nl).data.toList = O (k + 1) by rw [ba_list, hout, hnll, HO.out])
      have HBE := hide hbe
      have HNL := hide hnll
      have HIK := hide hik
      have HMK := hide hmk
      have HNZ := hide hnlz
      have jm : (out.size : Int) < (n : Int) := by omega
      clear hbe ls zs hll hTl hnl hnll hlast hik hmk hnlz hout hoz
      generalize (⟨#[UInt8.ofNat i]⟩ : ByteArray) = ob at *
      go_wp2_with fail
      refine (HM.out _).mono ?_
      rintro e w2 ⟨rfl, hb2⟩
      have HB2 := hide ((HBE.out.alloc HBE.out.size _).trans (hb2.mono (by have := HBE.out.size; simp; omega)))
      clear hb2 HBE HM hcv
      go_wp2
      go_roundw
      case rel => exact ⟨k + 1, i + 1, m + 32, nl, out ++ nl, by have := HMK.out; omega, by rw [HIK.out], by rw [HMK.out]; omega, by go_num, rfl, HNL.out, rfl, HON.out, HB2.out⟩
      case measure => simp [intOf]; omega
    · have hkk : k = K := by omega
      have jm : ¬ (out.size : Int) < (n : Int) := by omega
      have jn : n ≤ out.size := by omega
      have HF := hide (show out.extract 0 n = ⟨((O K).take n).toArray⟩ from ba_ext (by rw [ext_take, hout, hkk]))
      have HBE := hide hbe
      clear hbe hlast hmk hik hkK hKN HTL HOL HT HO HKN HT0 HO0 hoz hout hlt hkk
      go_wp2
      refine bodyPost_ret (results_tmp2 rfl _ _ _) rfl ?_
      rw [← HF.out]
      exact ⟨rfl, HBE.out⟩

set_option maxRecDepth 100000 in
set_option maxHeartbeats 800000 in
theorem kKey_any (ikm salt info : ByteArray) (w : World) (h1 : ikm.size < 2 ^ 50) (h3 : salt.size < 2 ^ 50) (hinfo : info.size < 2 ^ 50) (hk : KTab w) (hH : HTab w) (h2 : 2 ≤ w.heap.size) :
    Calls Tryz.prog 24 #[.string ikm, .string salt, .string info] w fun e w' => e = .returned (.string ⟨((expO (macL salt.data.toList ikm.data.toList) info.data.toList 1).take 32).toArray⟩) ∧ Below w.heap.size w w' := by
  have H1 := hide (extract_any salt ikm w (by omega) (by omega) hk hH h2)
  have hml := macL_len salt.data.toList ikm.data.toList
  generalize macL salt.data.toList ikm.data.toList = pl at *
  obtain ⟨p, hp⟩ : ∃ p : ByteArray, p = ⟨pl.toArray⟩ := ⟨_, rfl⟩
  rw [← hp] at H1
  have hz : p.size = 32 := by rw [hp, ba_size, hml]
  have hd : p.data.toList = pl := by rw [hp]
  have HE := hide (fun w (a : KTab w) (b : HTab w) (c : 2 ≤ w.heap.size) => expand_any p info 32 w (by decide) (by omega) hinfo a b c)
  rw [hd] at HE
  have HK := hide hk
  have HH := hide hH
  clear hk hH hp hd hz hml
  go_enter Tryz.func24, Tryz.ntmps24
  go_wp2_with fail
  refine H1.out.mono ?_
  rintro e w1 ⟨rfl, hb1⟩
  have HB1 := hide hb1
  have HEE := hide (HE.out w1 (HK.out.below hb1 h2) (HH.out.below hb1 h2) (Nat.le_trans h2 hb1.size))
  clear hb1 HE H1
  go_wp2_with fail
  refine HEE.out.mono ?_
  rintro e w2 ⟨rfl, hb2⟩
  have HB2 := hide (HB1.out.trans (hb2.mono HB1.out.size))
  clear hb2
  go_wp2
  go_ret
  exact ⟨rfl, HB2.out⟩

set_option maxRecDepth 100000 in
set_option maxHeartbeats 800000 in
theorem refKey_any (ikm salt info : ByteArray) (w : World) (h1 : ikm.size ≤ 1090000000) (h3 : salt.size ≤ 1090000000) (hinfo : info.size ≤ 1080000000) :
    Calls Tryz.prog 25 #[.string ikm, .string salt, .string info] w fun e w' => e = .returned (.string ⟨((expO (macL salt.data.toList ikm.data.toList) info.data.toList 1).take 32).toArray⟩) ∧ Below w.heap.size w w' := by
  have H1 := hide (fun w => refHmac_any salt ikm w h3 h1)
  have hml := macL_len salt.data.toList ikm.data.toList
  generalize macL salt.data.toList ikm.data.toList = pl at *
  obtain ⟨p, hp⟩ : ∃ p : ByteArray, p = ⟨pl.toArray⟩ := ⟨_, rfl⟩
  rw [← hp] at H1
  have hz : p.size = 32 := by rw [hp, ba_size, hml]
  have hd : p.data.toList = pl := by rw [hp]
  have HE := hide (fun w => refExpand_any p info 32 w (by decide) (by omega) hinfo)
  rw [hd] at HE
  clear hp hd hz hml
  go_enter Tryz.func25, Tryz.ntmps25
  go_wp2_with fail
  refine (H1.out _).mono ?_
  rintro e w1 ⟨rfl, hb1⟩
  have HB1 := hide hb1
  clear hb1 H1
  go_wp2_with fail
  refine (HE.out _).mono ?_
  rintro e w2 ⟨rfl, hb2⟩
  have HB2 := hide (HB1.out.trans (hb2.mono HB1.out.size))
  clear hb2 HE
  go_wp2
  go_ret
  exact ⟨rfl, HB2.out⟩
end Go.Proofs.YtfidnpchkfpoeaaGreatDoor
namespace Go.Proofs.YtfidnpchkfpoeaaGreatDoor
open Go.RowKit

theorem or_zero {x y : Nat} : x ||| y = 0 ↔ x = 0 ∧ y = 0 := Nat.or_eq_zero_iff
theorem xor_zero {x y : Nat} : x ^^^ y = 0 ↔ x = y := by
  constructor
  · intro h
    apply Nat.eq_of_testBit_eq
    intro i
    have h1 := congrArg (fun z : Nat => z.testBit i) h
    simpa using h1
  · rintro rfl
    exact Nat.xor_self _
theorem take_next {a b : List UInt8} {k : Nat} (ha : k < a.length) (hb : k < b.length) : a.take (k + 1) = b.take (k + 1) ↔ a.take k = b.take k ∧ a[k] = b[k] := by
  rw [List.take_succ_eq_append_getElem ha, List.take_succ_eq_append_getElem hb]
  constructor
  · intro h
    have h1 := List.append_inj h (by simp; omega)
    exact ⟨h1.1, by simpa using h1.2⟩
  · rintro ⟨h1, h2⟩
    rw [h1, h2]

set_option maxRecDepth 100000 in
set_option maxHeartbeats 800000 in
theorem same_any (a b : ByteArray) (w : World) (ha : a.size ≤ 1099511627776) :
    Calls Tryz.prog 27 #[.string a, .string b] w fun e w' => e = .returned (.bool (decide (a = b))) ∧ ∃ m, w' = w.drewN m := by
  by_cases hl : a.size = b.size
  · have jl : (a.size : Int) = (b.size : Int) := by omega
    have jl2 : ((a.size : Int) != (b.size : Int)) = false := by rw [jl]; simp
    have HL := hide hl
    clear hl jl
    go_enter Tryz.func27, Tryz.ntmps27
    go_wp2
    go_loopw [5, 6] (fun vo vi wr => ∃ (k X m : Nat), k ≤ a.size ∧ vi = .int .i64 (k : Nat) ∧ vo = .int .u8 (X : Nat) ∧ X < 256 ∧ (X = 0 ↔ a.data.toList.take k = b.data.toList.take k) ∧ wr = w.drewN m) (fun _ i _ => a.size - (intOf i).toNat)
    case atStart => exact ⟨0, 0, 0, by omega, rfl, rfl, by decide, by simp, rfl⟩
    case round =>
      obtain ⟨k, X, m, hk, rfl, rfl, hX, hiff, rfl⟩ := hrel
      by_cases hlt : k < a.size
      · have hltb : k < b.size := by rw [← HL.out]; exact hlt
        have hx : a[k].toNat < 256 := UInt8.toNat_lt _
        have hy : b[k].toNat < 256 := UInt8.toNat_lt _
        have t1 := u8_xor_nat a[k].toNat b[k].toNat hx hy
        have t2 := u8_or_nat X (a[k].toNat ^^^ b[k].toNat) hX (Nat.xor_lt_two_pow (n := 8) hx hy)
        have hstep : (X ||| (a[k].toNat ^^^ b[k].toNat) = 0 ↔ a.data.toList.take (k + 1) = b.data.toList.take (k + 1)) := by
          have hka : k < a.data.toList.length := by rw [ba_len]; exact hlt
          have hkb : k < b.data.toList.length := by rw [ba_len]; exact hltb
          rw [take_next hka hkb, or_zero, xor_zero, hiff]
          have e1 : a.data.toList[k] = a[k] := by rw [Array.getElem_toList]; rfl
          have e2 : b.data.toList[k] = b[k] := by rw [Array.getElem_toList]; rfl
          rw [e1, e2, UInt8.toNat_inj]
        have hlt2 : X ||| (a[k].toNat ^^^ b[k].toNat) < 256 := Nat.or_lt_two_pow (n := 8) hX (Nat.xor_lt_two_pow (n := 8) hx hy)
        have HST := hide hstep
        clear hstep hiff
        generalize X ||| (a[k].toNat ^^^ b[k].toNat) = Y at *
        refine wp_letterW (fun w' => ∃ m, w' = w.drewN m) ⟨m, rfl⟩ ?_
        rintro wq hm
        go_wp2
        go_quiet (fail)
        go_wp2
        go_roundw
        case rel =>
          obtain ⟨m', rfl⟩ := hm
          exact ⟨k + 1, Y, m' + nq, by omega, by go_num, by first | rfl | go_num, hlt2, HST.out, by simp⟩
        case measure => simp [intOf]; omega
      · have hka : k = a.size := by omega
        have hkey : (X = 0 ↔ a = b) := by
          rw [hiff, hka, List.take_of_length_le (by rw [ba_len]; exact Nat.le_refl _), List.take_of_length_le (by rw [ba_len, HL.out]; exact Nat.le_refl _)]
          exact ⟨fun h => ba_ext h, fun h => by rw [h]⟩
        have hres : decide (a = b) = ((X : Int) == 0) := by
          by_cases h : X = 0
          · rw [decide_eq_true (hkey.1 h), h]; rfl
          · rw [decide_eq_false (fun e => h (hkey.2 e))]
            exact (beq_eq_false_iff_ne.2 (by omega)).symm
        have HR := hide hres
        clear hkey hres hiff
        go_wp2
        go_ret
        rw [HR.out]
        exact ⟨rfl, m, rfl⟩
  · have jl2 : ((a.size : Int) != (b.size : Int)) = true := by simp; omega
    have hf : decide (a = b) = false := decide_eq_false (fun e => hl (by rw [e]))
    rw [hf]
    clear hl hf
    go_enter Tryz.func27, Tryz.ntmps27
    go_wp2
    go_ret
    exact ⟨rfl, 0, rfl⟩
end Go.Proofs.YtfidnpchkfpoeaaGreatDoor
