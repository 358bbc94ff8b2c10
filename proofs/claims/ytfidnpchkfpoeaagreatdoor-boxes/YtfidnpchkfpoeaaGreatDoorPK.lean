import Derived.Test.YtfidnpchkfpoeaaGreatDoorPI
import Derived.Test.YtfidnpchkfpoeaaGreatDoorPZ
import Derived.Test.YtfidnpchkfpoeaaGreatDoorM6
import Derived.Test.YtfidnpchkfpoeaaGreatDoorQM
namespace Go.Proofs.YtfidnpchkfpoeaaGreatDoor
open Go.RowKit

/-- A key stream from block n on lies in block b, 'used' bytes of it used. -/
def SB (w : World) (b : Nat) (key nonce : List UInt8) (n used : Nat) : Prop := n * 64 + used ≤ 274877906944 ∧ Blk w b 161 (scells key nonce (n * 64 + used))
theorem SB.lt {w : World} {b : Nat} {key nonce : List UInt8} {n used : Nat} (h : SB w b key nonce n used) : b < w.heap.size := h.2.lt
theorem SB.below {w w' : World} {b : Nat} {key nonce : List UInt8} {n used : Nat} (h : SB w b key nonce n used) {B : Nat} (hb : Below B w w') (hB : b < B) : SB w' b key nonce n used := ⟨h.1, h.2.below hb hB⟩
theorem SB.drewN {w : World} {b : Nat} {key nonce : List UInt8} {n used : Nat} (h : SB w b key nonce n used) (m : Nat) : SB (w.drewN m) b key nonce n used := ⟨h.1, h.2.drewN m⟩
theorem below_drewN {B : Nat} {a w : World} (h : Below B a w) (m : Nat) : Below B a (w.drewN m) := ⟨h.os, h.tape, h.output, h.size, h.block⟩
theorem begin_sb (key nonce : ByteArray) (w : World) (hk : key.size = 32) (hn : nonce.size = 12) :
    Calls Tryz.prog 62 #[.string key, .string nonce, .int .i64 1] w fun e w' => (∃ b, e = .returned (.tuple #[.pointer (some ⟨b, 0, none⟩), .int .i64 0]) ∧ w.heap.size ≤ b ∧ SB w' b key.data.toList nonce.data.toList 1 0) ∧ Below w.heap.size w w' := by
  have ha := blockAns_ok 1 hk hn (by decide)
  refine (begin_ok key nonce 1 (fun _ => (0, 0)) (1, 1) w (by decide) (by decide)).mono ?_
  rw [show (1 : Int) = ((1 : Nat) : Int) from rfl, ha]
  rintro e w' ⟨⟨v, rfl, hv⟩, hb⟩
  rcases hv with ⟨h, _⟩ | ⟨_, b, rfl, h1, h2, h3⟩
  · exact absurd rfl h
  · refine ⟨⟨b, rfl, ?_, h1, h2⟩, hb⟩
    rcases Nat.lt_or_ge b w.heap.size with hl | hl
    · rw [fresh_old _ _ _ _ hl] at h3
      exact absurd h3 (by decide)
    · exact hl
theorem begin_sbad (key nonce : ByteArray) (w : World) (h : key.size ≠ 32 ∨ nonce.size ≠ 12) :
    Calls Tryz.prog 62 #[.string key, .string nonce, .int .i64 1] w fun e w' => e = .returned (.tuple #[.pointer none, .int .i64 1]) ∧ Below w.heap.size w w' := by
  have ha : Cha.blockAns key nonce 1 = ([], 1) := by unfold Cha.blockAns; rw [if_pos h]
  refine (begin_ok key nonce 1 (fun _ => (0, 0)) (1, 1) w (by decide) (by decide)).mono ?_
  rw [ha]
  rintro e w' ⟨⟨v, rfl, hv⟩, hb⟩
  rcases hv with ⟨_, rfl⟩ | ⟨h, _⟩
  · exact ⟨rfl, hb⟩
  · exact absurd h (by decide)
theorem xor_sb (key nonce text : ByteArray) (b : Nat) (w : World) (hk : key.size = 32) (hn : nonce.size = 12) (ht : text.size ≤ 1099511627) (h : SB w b key.data.toList nonce.data.toList 1 0) :
    Calls Tryz.prog 63 #[.pointer (some ⟨b, 0, none⟩), .string text] w fun e w' => e = .returned (.tuple #[.string ⟨(Cha.xorL key.data.toList nonce.data.toList 1 0 text.data.toList text.size).toArray⟩, .int .i64 0]) ∧ w.grownBy w' (some b) := by
  have hx : Cha.xorAns key nonce 1 0 text = (Cha.xorL key.data.toList nonce.data.toList 1 0 text.data.toList text.size, 0) := by unfold Cha.xorAns; rw [if_neg (by omega)]
  refine (xor_ok key nonce 1 0 text (fun g => if g = b then (1, 1) else (0, 0)) (1, 1) b w hk hn (by decide) (by decide) ht ⟨h.1, h.2, if_pos rfl⟩).mono ?_
  rw [hx]
  rintro e w' ⟨rfl, _, hs⟩
  exact ⟨rfl, hs.os, hs.tape, hs.output, hs.size, fun k hk hne => hs.block k hk (by
    show ¬ (if k = b then ((1, 1) : Nat × Nat) else (0, 0)) = (1, 1)
    rw [if_neg (fun e => hne (by rw [e]))]
    decide)⟩

set_option maxRecDepth 100000 in
set_option maxHeartbeats 800000 in
theorem pseal_ok : SealOK := by
  intro key nonce aad text w ha ht
  unfold Box.sealAns ansV
  by_cases h : key.size ≠ 32 ∨ nonce.size ≠ 12
  · rw [if_pos h]
    have HB := hide (fun w => begin_sbad key nonce w h)
    clear h
    go_enter Tryz.func55, Tryz.ntmps55
    go_wp2_with fail
    refine (HB.out _).mono ?_
    rintro e w1 ⟨rfl, be1⟩
    go_wp2
    refine bodyPost_ret (results_tmp2 rfl _ _ _) rfl ?_
    exact ⟨rfl, be1⟩
  · have hk : key.size = 32 := by omega
    have hn : nonce.size = 12 := by omega
    rw [if_neg h]
    have HB := hide (fun w => begin_sb key nonce w hk hn)
    have HX := hide (fun b w => xor_sb key nonce text b w hk hn ht)
    have hbs : (⟨(Cha.xorL key.data.toList nonce.data.toList 1 0 text.data.toList text.size).toArray⟩ : ByteArray).size = text.size := by rw [two_size, Box.xor_len]
    have HT := hide (fun w => tagOf_any key nonce aad ⟨(Cha.xorL key.data.toList nonce.data.toList 1 0 text.data.toList text.size).toArray⟩ w hk hn ha (by rw [hbs]; exact ht))
    have hts : (⟨(Box.tag key.data.toList nonce.data.toList aad.data.toList (⟨(Cha.xorL key.data.toList nonce.data.toList 1 0 text.data.toList text.size).toArray⟩ : ByteArray).data.toList).toArray⟩ : ByteArray).size = 16 := by rw [two_size, Box.tag_len]
    have HV := hide (show (⟨(Box.sealed key.data.toList nonce.data.toList aad.data.toList text.data.toList).toArray⟩ : ByteArray) = ⟨(Cha.xorL key.data.toList nonce.data.toList 1 0 text.data.toList text.size).toArray⟩ ++ ⟨(Box.tag key.data.toList nonce.data.toList aad.data.toList (⟨(Cha.xorL key.data.toList nonce.data.toList 1 0 text.data.toList text.size).toArray⟩ : ByteArray).data.toList).toArray⟩ by
      apply text_ext
      rw [cat_list, two_toList, two_toList, two_toList, ← text_len text]
      rfl)
    show Calls _ _ _ _ fun e w' => e = .returned (.tuple #[.string ⟨(Box.sealed key.data.toList nonce.data.toList aad.data.toList text.data.toList).toArray⟩, .int .i64 0]) ∧ _
    rw [HV.out]
    clear HV
    generalize Box.tag key.data.toList nonce.data.toList aad.data.toList (⟨(Cha.xorL key.data.toList nonce.data.toList 1 0 text.data.toList text.size).toArray⟩ : ByteArray).data.toList = TG at *
    generalize (⟨(Cha.xorL key.data.toList nonce.data.toList 1 0 text.data.toList text.size).toArray⟩ : ByteArray) = bo at *
    generalize (⟨TG.toArray⟩ : ByteArray) = tg at *
    have j1 : ¬ 9223372036854775807 < bo.size + tg.size := by omega
    clear hk hn hbs hts ha ht h
    go_enter Tryz.func55, Tryz.ntmps55
    go_wp2_with fail
    refine (HB.out _).mono ?_
    rintro e w1 ⟨⟨b, rfl, hbb, hS⟩, be1⟩
    have HS := hide hS
    have BE1 := hide be1
    clear HB hS be1
    go_wp2_with fail
    refine (HX.out b _ HS.out).mono ?_
    rintro e w2 ⟨rfl, hg⟩
    have BE2 := hide (BE1.out.trans (RowKit.Below.of_grown hg hbb BE1.out.size))
    clear HX hg HS BE1
    go_wp2_with fail
    refine (HT.out _).mono ?_
    rintro e w3 ⟨rfl, be3⟩
    have BE3 := hide (BE2.out.trans (be3.mono BE2.out.size))
    clear HT be3 BE2
    go_wp2
    refine bodyPost_ret (results_tmp2 rfl _ _ _) rfl ?_
    exact ⟨rfl, BE3.out⟩

/-- Sealed anew it is the box just if its tag stands behind it. -/
theorem sealed_iff (key nonce aad box : List UInt8) (h : ¬ box.length < 16) : Box.sealed key nonce aad (Box.bare key nonce box) = box ↔ Box.tag key nonce aad (box.take (box.length - 16)) = box.drop (box.length - 16) := by
  have hl : (box.take (box.length - 16)).length = box.length - 16 := by rw [List.length_take]; omega
  have hb : (Box.bare key nonce box).length = box.length - 16 := by unfold Box.bare; rw [Box.xor_len]
  have hx : Cha.xorL key nonce 1 0 (Box.bare key nonce box) (Box.bare key nonce box).length = box.take (box.length - 16) := by
    rw [hb]
    unfold Box.bare
    have h1 := Cha.xor_back key nonce 1 0 (box.take (box.length - 16))
    rw [hl] at h1
    exact h1
  unfold Box.sealed
  rw [hx]
  constructor
  · intro e
    have e2 := congrArg (List.drop (box.length - 16)) e
    rw [List.drop_left' hl] at e2
    exact e2
  · intro e
    rw [e, List.take_append_drop]

set_option maxRecDepth 100000 in
set_option maxHeartbeats 1600000 in
theorem popen_ok : OpenOK := by
  intro key nonce aad box w ha ht
  unfold Box.openAns ansV
  by_cases h : key.size ≠ 32 ∨ nonce.size ≠ 12
  · rw [if_pos h]
    have HB := hide (fun w => begin_sbad key nonce w h)
    clear h
    go_enter Tryz.func57, Tryz.ntmps57
    go_wp2_with fail
    refine (HB.out _).mono ?_
    rintro e w1 ⟨rfl, be1⟩
    go_wp2
    refine bodyPost_ret (results_tmp2 rfl _ _ _) rfl ?_
    exact ⟨rfl, be1⟩
  · have hk : key.size = 32 := by omega
    have hn : nonce.size = 12 := by omega
    rw [if_neg h]
    have HB := hide (fun w => begin_sb key nonce w hk hn)
    unfold Box.opened
    by_cases hsm : box.size < 16
    · rw [if_pos (by rw [text_len]; exact hsm)]
      have j1 : (box.size : Int) < 16 := by omega
      clear hk hn h hsm
      go_enter Tryz.func57, Tryz.ntmps57
      go_wp2_with fail
      refine (HB.out _).mono ?_
      rintro e w1 ⟨⟨b, rfl, hbb, hS⟩, be1⟩
      go_wp2
      refine bodyPost_ret (results_tmp2 rfl _ _ _) rfl ?_
      exact ⟨rfl, be1⟩
    · rw [if_neg (by rw [text_len]; exact hsm)]
      obtain ⟨n, hnn⟩ : ∃ n : Nat, n = box.size - 16 := ⟨_, rfl⟩
      have j1 : ¬ (box.size : Int) < 16 := by omega
      have t1 : IntKind.i64.wrap ((box.size : Int) - 16) = (n : Int) := (IntWalk.i64_in _ (by omega)).trans (by omega)
      have t2 : (box.size : Int) - 16 = (n : Int) := by omega
      have t3 : wrap64 (n : Int) = (n : Int) := IntWalk.wrap64_in _ (by omega)
      have hn2 : n ≤ box.size := by omega
      have hns : (box.extract 0 n).size = n := by rw [ByteArray.size_extract]; omega
      have HX := hide (fun b w => xor_sb key nonce (box.extract 0 n) b w hk hn (by rw [hns]; omega))
      have hba : Box.bare key.data.toList nonce.data.toList box.data.toList = Cha.xorL key.data.toList nonce.data.toList 1 0 (box.extract 0 n).data.toList (box.extract 0 n).size := by
        unfold Box.bare
        rw [text_len, hns, sub_list, ← hnn]
        rfl
      rw [← hba] at HX
      have HT := hide (fun w => tagOf_any key nonce aad (box.extract 0 n) w hk hn ha (by rw [hns]; omega))
      have hiff := sealed_iff key.data.toList nonce.data.toList aad.data.toList box.data.toList (by rw [text_len]; exact hsm)
      rw [text_len, ← hnn] at hiff
      have e1 : (box.extract 0 n).data.toList = box.data.toList.take n := by rw [sub_list, List.drop_zero, Nat.sub_zero]
      have e2 : (box.extract n box.size).data.toList = box.data.toList.drop n := by
        rw [sub_list]
        exact List.take_of_length_le (by rw [List.length_drop, text_len]; exact Nat.le_refl _)
      rw [← e1, ← e2] at hiff
      have htl := Box.tag_len key.data.toList nonce.data.toList aad.data.toList (box.extract 0 n).data.toList
      generalize Box.tag key.data.toList nonce.data.toList aad.data.toList (box.extract 0 n).data.toList = TG at *
      have hsame : (Box.sealed key.data.toList nonce.data.toList aad.data.toList (Box.bare key.data.toList nonce.data.toList box.data.toList) = box.data.toList) ↔ (⟨TG.toArray⟩ : ByteArray) = box.extract n box.size := by
        rw [hiff]
        exact ⟨fun h => text_ext (by rw [two_toList]; exact h), fun h => by rw [← h, two_toList]⟩
      have hts : (⟨TG.toArray⟩ : ByteArray).size ≤ 1099511627776 := by rw [two_size, htl]; decide
      have SM := hide (fun w => same_any (⟨TG.toArray⟩ : ByteArray) (box.extract n box.size) w hts)
      generalize (⟨TG.toArray⟩ : ByteArray) = tg at *
      by_cases heq : tg = box.extract n box.size
      · rw [if_pos (hsame.2 heq)]
        rw [decide_eq_true heq] at SM
        generalize Box.bare key.data.toList nonce.data.toList box.data.toList = BO at *
        clear hk hn h hsm hnn hns hba hiff e1 e2 hsame hts heq ha ht htl
        go_enter Tryz.func57, Tryz.ntmps57
        go_wp2_with fail
        refine (HB.out _).mono ?_
        rintro e w1 ⟨⟨b, rfl, hbb, hS⟩, be1⟩
        have HS := hide hS
        have BE1 := hide be1
        clear HB hS be1
        go_wp2_with fail
        refine (HT.out _).mono ?_
        rintro e w2 ⟨rfl, be2⟩
        have BE2 := hide (BE1.out.trans (be2.mono BE1.out.size))
        have HS2 := hide (HS.out.below be2 HS.out.lt)
        clear HT be2 BE1 HS
        go_wp2_with fail
        refine (SM.out _).mono ?_
        rintro e w3 ⟨rfl, m, hw3⟩
        have HS3 : Hid (SB w3 b key.data.toList nonce.data.toList 1 0) := hide (by rw [hw3]; exact HS2.out.drewN m)
        have BE3 : Hid (Below w.heap.size w w3) := hide (by rw [hw3]; exact below_drewN BE2.out m)
        clear SM hw3 HS2 BE2
        go_wp2_with fail
        refine (HX.out b _ HS3.out).mono ?_
        rintro e w4 ⟨rfl, hg⟩
        have BE4 := hide (BE3.out.trans (RowKit.Below.of_grown hg hbb BE3.out.size))
        clear HX hg HS3 BE3
        go_wp2
        refine bodyPost_ret (results_tmp2 rfl _ _ _) rfl ?_
        exact ⟨rfl, BE4.out⟩
      · rw [if_neg (fun h => heq (hsame.1 h))]
        rw [decide_eq_false heq] at SM
        clear hk hn h hsm hnn hns hba hiff e1 e2 hsame hts heq ha ht htl HX
        go_enter Tryz.func57, Tryz.ntmps57
        go_wp2_with fail
        refine (HB.out _).mono ?_
        rintro e w1 ⟨⟨b, rfl, hbb, hS⟩, be1⟩
        have BE1 := hide be1
        clear HB hS be1
        go_wp2_with fail
        refine (HT.out _).mono ?_
        rintro e w2 ⟨rfl, be2⟩
        have BE2 := hide (BE1.out.trans (be2.mono BE1.out.size))
        clear HT be2 BE1
        go_wp2_with fail
        refine (SM.out _).mono ?_
        rintro e w3 ⟨rfl, m, hw3⟩
        have BE3 : Hid (Below w.heap.size w w3) := hide (by rw [hw3]; exact below_drewN BE2.out m)
        clear SM hw3 BE2
        go_wp2
        refine bodyPost_ret (results_tmp2 rfl _ _ _) rfl ?_
        exact ⟨rfl, BE3.out⟩
end Go.Proofs.YtfidnpchkfpoeaaGreatDoor
