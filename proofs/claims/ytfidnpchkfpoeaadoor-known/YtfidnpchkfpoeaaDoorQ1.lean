import Derived.Test.YtfidnpchkfpoeaaDoorX0
import Derived.Test.YtfidnpchkfpoeaaDoorM6
namespace Go.Proofs.YtfidnpchkfpoeaaDoor
open Go.RowKit

/-- Work above all that was there at w0: what lay there is as it was, the tables too. -/
structure Over (w0 w : World) : Prop where
  b : Below w0.heap.size w0 w
  k : KTab w
  h : HTab w
  z : 2 ≤ w0.heap.size
theorem Over.sz {w0 w : World} (o : Over w0 w) : 2 ≤ w.heap.size := Nat.le_trans o.z o.b.size
theorem Over.below {w0 w w' : World} (o : Over w0 w) (hb : Below w.heap.size w w') : Over w0 w' :=
  ⟨o.b.trans (hb.mono o.b.size), o.k.below hb o.sz, o.h.below hb o.sz, o.z⟩
theorem Over.grown {w0 w w' : World} {b : Nat} (o : Over w0 w) (hg : w.grownBy w' (some b)) (hb : w0.heap.size ≤ b) : Over w0 w' :=
  ⟨o.b.trans ⟨hg.os, hg.tape, hg.output, hg.size, fun i hi => hg.block i (Nat.lt_of_lt_of_le hi o.b.size) (fun e => by injection e with e; omega)⟩, o.k.grown hg (Nat.le_trans o.z hb) o.sz, o.h.grown hg (Nat.le_trans o.z hb) o.sz, o.z⟩
theorem Over.drewN {w0 w : World} (o : Over w0 w) (m : Nat) : Over w0 (w.drewN m) :=
  o.below (((World.grownBy.refl w none).drewN m).none)
theorem begin_new (w : World) (hH : HTab w) :
    Calls Tryd.prog 19 #[] w fun e w' => ∃ b, e = .returned (.pointer (some ⟨b, 0, none⟩)) ∧ w.heap.size ≤ b ∧ HRep w' b 59 [] [] [] ∧ Below w.heap.size w w' := by
  refine (begin_any w hH).mono ?_
  rintro e w' ⟨rfl, h1, h2⟩
  exact ⟨_, rfl, Nat.le_refl _, h1, h2⟩
theorem copy_new (b : Nat) (l : List UInt8) (w : World) (hb : HRep w b 59 [] [] l) :
    Calls Tryd.prog 21 #[.pointer (some ⟨b, 0, none⟩)] w fun e w' => ∃ b', e = .returned (.pointer (some ⟨b', 0, none⟩)) ∧ w.heap.size ≤ b' ∧ HRep w' b' 59 [] [] l ∧ Below w.heap.size w w' := by
  refine (copy_any b _ [] [] l w hb).mono ?_
  rintro e w' ⟨rfl, h1, h2⟩
  exact ⟨_, rfl, Nat.le_refl _, h1, h2⟩
theorem write_new (b : Nat) (l : List UInt8) (s : ByteArray) (w : World) (hn : l.length + s.size < 2 ^ 62) (hb : HRep w b 59 [] [] l) (hk : KTab w) (h2 : 2 ≤ b) :
    Calls Tryd.prog 20 #[.pointer (some ⟨b, 0, none⟩), .string s] w fun e w' => e = .returned (.tuple #[]) ∧ HRep w' b 59 [] [] (l ++ s.data.toList) ∧ w.grownBy w' (some b) :=
  hwrite_any b _ [] [] l s w hn hb hk h2
theorem sum_new (b : Nat) (l : List UInt8) (w : World) (hn : l.length < 2 ^ 59) (hb : HRep w b 59 [] [] l) (hk : KTab w) (h2 : 2 ≤ w.heap.size) :
    Calls Tryd.prog 22 #[.pointer (some ⟨b, 0, none⟩)] w fun e w' => e = .returned (.string ⟨(Sha.sum l).toArray⟩) ∧ Below w.heap.size w w' :=
  hsum_any b _ [] [] l w hn hb hk h2
theorem reset_new (b : Nat) (l : List UInt8) (w : World) (hb : HRep w b 59 [] [] l) (hH : HTab w) :
    Calls Tryd.prog 23 #[.pointer (some ⟨b, 0, none⟩)] w fun e w' => e = .returned (.tuple #[]) ∧ HRep w' b 59 [] [] [] ∧ w.grownBy w' (some b) :=
  reset_any b _ [] [] l w hb hH
theorem tags0 {w w' : World} {T' : Tags} (h : Stays (fun _ => (0, 0)) T' w w' (fun x => x = (1, 0))) : Below w.heap.size w w' := h.below (Nat.le_refl _) (fun _ _ => rfl) (by simp)

set_option maxRecDepth 100000 in
set_option maxHeartbeats 3200000 in
theorem pieces_any (HPB : PBeginOK) (HPW : PWriteOK) (HPS : PSumOK) (HPT : PTagOK) (s t : ByteArray) (w : World) (hs : s.size ≤ 268435456) (ht : t.size ≤ 268435456) (hk : KTab w) (hh : HTab w) (h2 : 2 ≤ w.heap.size) :
    Calls Tryd.prog 7 #[.string s, .string t] w fun e w' => e = .returned (.bool true) ∧ Below w.heap.size w w' := by
  have HO := hide (show Over w w from ⟨Below.refl _ _, hk, hh, h2⟩)
  have lb : s.data.toList.length = s.size := ba_len s
  have lt : t.data.toList.length = t.size := ba_len t
  have lst : (s ++ t).size = s.size + t.size := ba_sz s t
  have hcat : ¬ (2 ^ 63 - 1 < s.size + t.size) := by omega
  have hcat2 : ¬ (9223372036854775807 < s.size + t.size) := by omega
  clear hk hh
  go_enter Tryd.func7, Tryd.ntmps7
  go_wp2_with fail
  refine (begin_new _ HO.out.h).mono ?_
  rintro e w1 ⟨b1, rfl, l1, hr1, hb1⟩
  have O1 := hide (HO.out.below hb1)
  have R1 := hide hr1
  clear hr1 hb1 HO
  go_wp2_with fail
  refine (write_new b1 _ s _ (by simp; omega) R1.out O1.out.k (by omega)).mono ?_
  rintro e w2 ⟨rfl, hr2, hg2⟩
  rw [List.nil_append] at hr2
  have O2 := hide (O1.out.grown hg2 l1)
  have R2 := hide hr2
  clear hr2 hg2 O1 R1
  go_wp2_with fail
  refine (copy_new b1 _ _ R2.out).mono ?_
  rintro e w3 ⟨b2, rfl, l2, hg3, hb3⟩
  have n12 : b1 < b2 := Nat.lt_of_lt_of_le R2.out.lt l2
  have O3 := hide (O2.out.below hb3)
  have R3 := hide (R2.out.below hb3 R2.out.lt)
  have G3 := hide hg3
  have l2' : w.heap.size ≤ b2 := Nat.le_trans O2.out.b.size l2
  clear hg3 hb3 O2 R2 l2
  go_wp2_with fail
  refine (sum_new b1 _ _ (by omega) R3.out O3.out.k O3.out.sz).mono ?_
  rintro e w4 ⟨rfl, hb4⟩
  have O4 := hide (O3.out.below hb4)
  have R4 := hide (R3.out.below hb4 R3.out.lt)
  have G4 := hide (G3.out.below hb4 G3.out.lt)
  clear hb4 O3 R3 G3
  go_wp2_with fail
  refine (write_new b1 _ t _ (by omega) R4.out O4.out.k (by omega)).mono ?_
  rintro e w5 ⟨rfl, hr5, hg5⟩
  have O5 := hide (O4.out.grown hg5 l1)
  have R5 := hide hr5
  have G5 := hide (G4.out.grown hg5 (fun e => by injection e with e; omega))
  clear hr5 hg5 O4 R4 G4
  go_wp2_with fail
  refine (write_new b2 _ t _ (by omega) G5.out O5.out.k (by omega)).mono ?_
  rintro e w6 ⟨rfl, hr6, hg6⟩
  have O6 := hide (O5.out.grown hg6 l2')
  have G6 := hide hr6
  have R6 := hide (R5.out.grown hg6 (fun e => by injection e with e; omega))
  clear hr6 hg6 O5 R5 G5
  have lsum : (s.data.toList ++ t.data.toList).length < 2 ^ 59 := by rw [List.length_append]; omega
  have hsml : (Sha.sum (s.data.toList ++ t.data.toList)).length = 32 := Sha.sum_len _
  have hcl : (s ++ t).data.toList = s.data.toList ++ t.data.toList := ba_list s t
  go_wp2_with fail
  refine (sum_new b1 _ _ lsum R6.out O6.out.k O6.out.sz).mono ?_
  rintro e w7 ⟨rfl, hb7⟩
  have O7 := hide (O6.out.below hb7)
  have R7 := hide (R6.out.below hb7 R6.out.lt)
  have G7 := hide (G6.out.below hb7 G6.out.lt)
  clear hb7 O6 R6 G6
  go_wp2_with fail
  refine (sum_new b2 _ _ lsum G7.out O7.out.k O7.out.sz).mono ?_
  rintro e w8 ⟨rfl, hb8⟩
  have O8 := hide (O7.out.below hb8)
  have R8 := hide (R7.out.below hb8 R7.out.lt)
  clear hb8 O7 R7 G7
  go_wp2_with fail
  refine (shaSum_any (s ++ t) _ (by omega) O8.out.k O8.out.h O8.out.sz).mono ?_
  rw [hcl]
  rintro e w9 ⟨rfl, hb9⟩
  have O9 := hide (O8.out.below hb9)
  have R9 := hide (R8.out.below hb9 R8.out.lt)
  clear hb9 O8 R8
  have hsz : (⟨(Sha.sum (s.data.toList ++ t.data.toList)).toArray⟩ : ByteArray).size = 32 := by rw [ba_size]; exact hsml
  generalize (⟨(Sha.sum (s.data.toList ++ t.data.toList)).toArray⟩ : ByteArray) = sm at *
  clear lsum hsml
  go_wp2_with fail
  refine (reset_new b1 _ _ R9.out O9.out.h).mono ?_
  rintro e w10 ⟨rfl, hr10, hg10⟩
  have O10 := hide (O9.out.grown hg10 l1)
  have R10 := hide hr10
  clear hr10 hg10 O9 R9
  go_wp2_with fail
  refine (sum_new b1 _ _ (by decide) R10.out O10.out.k O10.out.sz).mono ?_
  rintro e w11 ⟨rfl, hb11⟩
  have O11 := hide (O10.out.below hb11)
  clear hb11 O10 R10
  go_wp2_with fail
  refine (shaSum_any ⟨#[]⟩ _ (by decide) O11.out.k O11.out.h O11.out.sz).mono ?_
  rintro e w12 ⟨rfl, hb12⟩
  have O12 := hide (O11.out.below hb12)
  clear hb12 O11
  have hnil : (⟨(Sha.sum (⟨#[]⟩ : ByteArray).data.toList).toArray⟩ : ByteArray) = ⟨(Sha.sum []).toArray⟩ := rfl
  rw [hnil]
  generalize (⟨(Sha.sum []).toArray⟩ : ByteArray) = s0 at *
  clear hnil
  go_wp2_with fail
  refine (kbegin_any s _ (by omega) O12.out.k O12.out.h O12.out.sz).mono ?_
  rintro e w13 ⟨b3, rfl, l3, hr13, hb13⟩
  have O13 := hide (O12.out.below hb13)
  have R13 := hide hr13
  have l3' : w.heap.size ≤ b3 := Nat.le_trans O12.out.b.size l3
  clear hr13 hb13 O12 l3
  go_wp2_with fail
  refine (kwrite_any b3 _ _ s _ (by simp; omega) R13.out O13.out.k (by omega)).mono ?_
  rintro e w14 ⟨rfl, hr14, hg14⟩
  rw [List.nil_append] at hr14
  have O14 := hide (O13.out.grown hg14 l3')
  have R14 := hide hr14
  clear hr14 hg14 O13 R13
  go_wp2_with fail
  refine (ksum_any b3 _ _ _ (by omega) R14.out O14.out.k O14.out.sz).mono ?_
  rintro e w15 ⟨rfl, hb15⟩
  have O15 := hide (O14.out.below hb15)
  have R15 := hide (R14.out.below' hb15 R14.out.lt')
  clear hb15 O14 R14
  go_wp2_with fail
  refine (kwrite_any b3 _ _ t _ (by omega) R15.out O15.out.k (by omega)).mono ?_
  rintro e w16 ⟨rfl, hr16, hg16⟩
  have O16 := hide (O15.out.grown hg16 l3')
  have R16 := hide hr16
  clear hr16 hg16 O15 R15
  go_wp2_with fail
  refine (ksum_any b3 _ _ _ (by rw [List.length_append]; omega) R16.out O16.out.k O16.out.sz).mono ?_
  rintro e w17 ⟨rfl, hb17⟩
  have O17 := hide (O16.out.below hb17)
  clear hb17 O16 R16
  go_wp2_with fail
  refine (hmac_any s (s ++ t) _ (by omega) (by omega) O17.out.k O17.out.h O17.out.sz).mono ?_
  rw [hcl]
  rintro e w18 ⟨rfl, hb18⟩
  have O18 := hide (O17.out.below hb18)
  clear hb18 O17
  generalize (⟨(macL s.data.toList (s.data.toList ++ t.data.toList)).toArray⟩ : ByteArray) = mm at *
  go_wp2_with fail
  refine (HPB sm (fun _ => (0, 0)) (1, 0) _).mono ?_
  rintro e w19 ⟨⟨v, rfl, hv⟩, hb19⟩
  rw [if_pos hsz]
  obtain ⟨b4, rfl, hr19⟩ : ∃ b, v = .pointer (some ⟨b, 0, none⟩) ∧ TRep (fresh (fun _ => (0, 0)) w18 (1, 0)) w19 (1, 0) b sm.data.toList [] := by
    rcases hv with ⟨hn, _⟩ | ⟨_, hb⟩
    · exact absurd hsz hn
    · exact hb
  have S19 := hide (show Stays (fun _ => (0, 0)) (fresh (fun _ => (0, 0)) w18 (1, 0)) w18 w19 (fun x => x = (1, 0)) from Stays.of_below (1, 0) hb19)
  have R19 := hide hr19
  generalize fresh (fun _ => (0, 0)) w18 (1, 0) = T19 at *
  clear hr19 hb19 hv
  go_wp2_with fail
  refine (HPW sm _ s T19 (1, 0) b4 _ hsz (by simp) (by omega) R19.out).mono ?_
  rintro e w20 ⟨rfl, hr20, hs20⟩
  rw [List.nil_append] at hr20
  have S20 := hide (S19.out.trans hs20)
  have R20 := hide hr20
  generalize fresh T19 w19 (1, 0) = T20 at *
  clear hr20 hs20 S19 R19
  go_wp2_with fail
  refine (HPS sm _ T20 (1, 0) b4 _ hsz (by omega) R20.out).mono ?_
  rintro e w21 ⟨rfl, hr21, hs21⟩
  have S21 := hide (S20.out.trans hs21)
  have R21 := hide hr21
  generalize fresh T20 w20 (1, 0) = T21 at *
  clear hr21 hs21 S20 R20
  go_wp2_with fail
  refine (HPW sm _ t T21 (1, 0) b4 _ hsz (by omega) (by omega) R21.out).mono ?_
  rintro e w22 ⟨rfl, hr22, hs22⟩
  have S22 := hide (S21.out.trans hs22)
  have R22 := hide hr22
  generalize fresh T21 w21 (1, 0) = T22 at *
  clear hr22 hs22 S21 R21
  go_wp2_with fail
  refine (HPS sm _ T22 (1, 0) b4 _ hsz (by rw [List.length_append]; omega) R22.out).mono ?_
  rintro e w23 ⟨rfl, hr23, hs23⟩
  have O23 := hide (O18.out.b.trans ((tags0 (S22.out.trans hs23)).mono O18.out.b.size))
  clear hr23 hs23 S22 R22
  have htag := fun w => HPT sm (s ++ t) w (by omega)
  unfold ansV Pol.tagAns at htag
  rw [if_neg (fun hn => hn hsz), hcl] at htag
  generalize (⟨(Pol.tag sm.data.toList (s.data.toList ++ t.data.toList)).toArray⟩ : ByteArray) = tg at *
  have HTAG := hide htag
  clear htag
  go_wp2_with fail
  refine (HTAG.out _).mono ?_
  rintro e w24 ⟨rfl, hb24⟩
  have O24 := hide (O23.out.trans (hb24.mono O23.out.size))
  clear hb24 O23 HTAG
  have z32 : ((sm.size : Int) == 32) = true := by rw [hsz]; rfl
  go_wp2
  go_ret
  exact ⟨by simp, O24.out⟩
end Go.Proofs.YtfidnpchkfpoeaaDoor
