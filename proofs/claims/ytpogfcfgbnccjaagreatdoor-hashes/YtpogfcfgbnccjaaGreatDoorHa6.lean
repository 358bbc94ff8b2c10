import Derived.Test.YtpogfcfgbnccjaaGreatDoorHa5
namespace Go.Proofs.YtpogfcfgbnccjaaGreatDoor
open Go.RowKit

set_option maxRecDepth 100000 in
set_option maxHeartbeats 1600000 in
theorem hashed_34 {T : Tags} {base B M M' : Nat} {σ : Sig} {w : World} (h : Inv T base B M σ w) (o : OpR) (hok : o.ok) (hk : o.kind = 34) (h0 : 0 < σ.ha.length) (hM : M < M') (hM2 : M' ≤ 1073741824) :
    Calls Tryz.prog 34 #[.pointer (some ⟨B, 0, none⟩), opV o] w fun e w' => e = .returned (.bool true) ∧ Done base B M' w w' := by
  have z : (o.kind == 30) = false := beq_eq_false_iff_ne.2 (by rw [hk]; decide)
  have z31 : (o.kind == 31) = false := beq_eq_false_iff_ne.2 (by rw [hk]; decide)
  have z32 : (o.kind == 32) = false := beq_eq_false_iff_ne.2 (by rw [hk]; decide)
  have z33 : (o.kind == 33) = false := beq_eq_false_iff_ne.2 (by rw [hk]; decide)
  have z34 : (o.kind == 34) = true := beq_iff_eq.2 hk
  have hb0 : Below w.heap.size w (w.alloc (.cells #[.int .i64 o.kind, .int .i64 o.a, .int .i64 o.b, .int .i64 o.c, .string o.s, .string o.t] 29)) := (Below.refl _ _).alloc (Nat.le_refl _) _
  have hA := h.below hb0
  obtain ⟨g, cap, hv, hcap, hcm, hTg, hgl, hfz, hcell⟩ := RowT.cells2 (f := haV) haV_len hA.rha h0
  have c6 := hA.hw.1.cell (i := 6) rfl
  rw [hv] at c6
  have hpk := pickN_lt o.a σ.ha.length h0
  obtain ⟨p, hp⟩ : ∃ p, σ.ha[pickN o.a σ.ha.length]? = some p := ⟨_, List.getElem?_eq_getElem hpk⟩
  have d0 := hcell _ p hp 0 _ rfl
  have d1 := hcell _ p hp 1 _ rfl
  have hoa := hok.a
  have hlen := hA.bound.2.2.2.2.1
  have hMb := hA.bound.1
  have hpick := fun w => pick_any o.a σ.ha.length w hoa.1 hoa.2 h0 (by omega)
  have hbB := hA.hw.1.lt
  have hts := fresh_new T w (9, 9) w.heap.size (Nat.le_refl _)
  have hbase := h.bsz
  unfold opV
  unfold maxLen at hcm
  have HA := hide hA
  have HB := hide hb0
  have HV := hide hv
  have HP := hide hp
  have HPK := hide hpick
  have HTS := hide hts
  have jn : (0 : Int) < (σ.ha.length : Int) := by omega
  clear hA hb0 h hk hv hp hTg hfz hcell hpick hts
  generalize hn : σ.ha.length = n at *
  generalize hpe : pickN o.a n = pk at *
  go_enter Tryz.func34, Tryz.ntmps34
  go_wp2
  refine wp_letterW (fun w' => Inv (fresh T w (9, 9)) base B M σ w' ∧ Below w.heap.size w w' ∧ w'.cell? ⟨B, 6, none⟩ = some (.slice (some ⟨g, 0, none⟩) n cap) ∧ w'.cell? ⟨w.heap.size, 0, none⟩ = some (.int .i64 o.kind) ∧ w'.cell? ⟨w.heap.size, 1, none⟩ = some (.int .i64 o.a) ∧ w'.cell? ⟨w.heap.size, 4, none⟩ = some (.string o.s) ∧ w'.cell? ⟨g, pk * 2, none⟩ = some (.pointer (some ⟨p.b, 0, none⟩)) ∧ w'.cell? ⟨g, pk * 2 + 1, none⟩ = some (.string ⟨p.l.toArray⟩) ∧ w.heap.size < w'.heap.size ∧ g < w'.heap.size ∧ B < w'.heap.size) ⟨HA.out, HB.out, c6, (World.cell?_alloc_at _ _ _ _ rfl).trans rfl, (World.cell?_alloc_at _ _ _ _ rfl).trans rfl, (World.cell?_alloc_at _ _ _ _ rfl).trans rfl, d0, d1, by simp, hgl, hbB⟩ ?_
  clear c6 d0 d1 HA HB hgl hbB
  rintro wq ⟨HI, HB, c6, e0, e1, e4, d0, d1, hsz, hgl, hbB⟩
  have key : ∀ (m : Nat) (w3 : World), Blk w3 wq.heap.size 71 (laidOver [.pointer none, .string ⟨#[]⟩] 0 [.pointer (some ⟨p.b, 0, none⟩), .string ⟨p.l.toArray⟩]) → ((wq.drewN m).alloc (.cells #[.pointer none, .string ⟨#[]⟩] 71)).grownBy w3 (some wq.heap.size) → HaAt (fresh (fresh T w (9, 9)) wq (9, 9)) base B M σ w o g n cap pk w.heap.size wq.heap.size p w3 := by
    intro m w3 hb hg
    have hb1 : Below wq.heap.size wq w3 := (World.grownBy.new (row := none) (World.grownBy.refl wq none |>.drewN m) hg).none
    refine ⟨HI.same (Nat.le_refl _) HI.bound.1 (Stays.of_below (9, 9) hb1), HB.trans (hb1.mono (by omega)), ?_, ?_, ?_, hb.cell rfl, hb.cell rfl, ?_, fresh_new _ _ _ _ (Nat.le_refl _), ?_, hb.lt⟩
    · rw [hb1.cell (show B < wq.heap.size by omega)]; exact c6
    · rw [hb1.cell (show w.heap.size < wq.heap.size by omega)]; exact e0
    · rw [hb1.cell (show w.heap.size < wq.heap.size by omega)]; exact e4
    · rw [fresh_old _ _ _ _ hsz]; exact HTS.out
    · have := hb1.size; omega
  have HKEY := hide key
  clear key HI HB
  go_quiet ((go_at_call 55; exact Calls.quiet_of_same (HPK.out _)))
  go_wp2_with (refine wpList_store_blk rfl 71 (.tmp 7) (.tmp 46) rfl wq.heap.size 0 #[.pointer (some ⟨p.b, 0, none⟩), .string ⟨p.l.toArray⟩] rfl rfl (info2 _ _) (one2 _ _) 71 [.pointer none, .string ⟨#[]⟩] (Blk.new rfl rfl) (Nat.le_refl 2) ?_; intro w3 hB3 hG3; obtain ⟨HI3, HB3, c63, e03, e43, p03, p13, tsb, tnb, lsb, lnb⟩ := HKEY.out _ w3 hB3 hG3; replace HI3 := hide HI3; replace HB3 := hide HB3; clear hB3 hG3 HKEY c6 e0 e1 e4 d0 d1 HTS; generalize (fresh (fresh T w (9, 9)) wq (9, 9)) = T3 at *; generalize wq.heap.size = nb at *; generalize hsbe : w.heap.size = sb at *)
  obtain ⟨hr1, hr2, hr3⟩ := HI3.out.ha pk p HP.out
  refine (copy_any p.b 135 [] [] p.l _ hr1).mono ?_
  rintro e w4 ⟨rfl, hr4, hb4⟩
  have c64 : w4.cell? ⟨B, 6, none⟩ = some (.slice (some ⟨g, 0, none⟩) n cap) := by rw [← c63]; exact hb4.cell HI3.out.hw.1.lt
  have p14 : w4.cell? ⟨nb, 1, none⟩ = some (.string ⟨p.l.toArray⟩) := by rw [← p13]; exact hb4.cell lnb
  have hI4 := HI3.out.same (Nat.le_refl _) HI3.out.bound.1 (Stays.of_below (30, n) hb4)
  have htg := fresh_new T3 w3 (30, n) _ (Nat.le_refl _)
  have HB4 := hide (HB3.out.trans (hb4.mono (by have := HB3.out.size; omega)))
  generalize fresh T3 w3 (30, n) = T4 at *
  generalize w3.heap.size = yb at *
  have key := fun (w1 : World) (o : Obj) (hg : (w4.drew.alloc o).grownBy w1 σ.vha.ownBlock) => (hI4.drew.hw.1.alloc o).grown hg (fun e => absurd (hI4.rha.2 B e.symm) (by rw [hI4.hw.2]; decide))
  have hrow := hI4.rha.1
  rw [HV.out] at hrow key
  rw [hn] at hrow
  have HK := hide key
  have HI4 := hide hI4
  have HR4 := hide hr4
  have HTG := hide htg
  have HROW := hide hrow
  clear key hI4 hr4 hr1 hr2 hb4 htg HI3 HB3 c63 e03 e43 p03 p13 tsb tnb lsb lnb HPK hrow
  have hpl : p.l.length ≤ M' := by omega
  have c6a : (w4.alloc (.cells #[.pointer (some ⟨yb, 0, none⟩), .string ⟨p.l.toArray⟩] 71)).cell? ⟨B, 6, none⟩ = some (.slice (some ⟨g, 0, none⟩) n cap) := World.cell?_alloc_later w4 _ _ c64
  clear hr3
  go_wp2
  go_region_law (refine step_append_two 71 37 _ 24 infoHa Tryz.underlying37 rfl (by decide) rfl (.tmp 103) (.tmp 108) rfl _ n _ rfl (HROW.out.drew.alloc _) w4.heap.size _ _ rfl ?_ ?_ new_two0 new_two1 ?_ ?_; rfl; rfl; omega; intro v1 w1 hr1 hg1 hat1; obtain ⟨g9, cap9, cur9, rfl, _⟩ := hr1.open (Nat.succ_pos _); have b1 := HK.out w1 _ hg1; have d6 := b1.cell (i := 6) rfl; have f1 := b1.frozen)
  all_goals
    go_wp2
    go_ret
    refine ⟨rfl, ?_⟩
    obtain ⟨T', h1, h2⟩ := HI4.out.drew.addHa hM hM2 ⟨yb, p.l⟩ HR4.out (by rw [HTG.out, hn]) hpl _ _ (by rw [HV.out]; exact hg1) (by rw [hn]; exact hr1) (by rw [HV.out]; exact hat1)
    exact ⟨T', _, h1, (HB4.out.mono hbase).trans ⟨h2.os, h2.tape, h2.output, h2.size, h2.block⟩⟩
end Go.Proofs.YtpogfcfgbnccjaaGreatDoor
namespace Go.Proofs.YtpogfcfgbnccjaaGreatDoor
open Go.RowKit

theorem hashed_any {T : Tags} {base B M M' : Nat} {σ : Sig} {w : World} (h : Inv T base B M σ w) (o : OpR) (hok : o.ok) (hk : o.kind = 30 ∨ o.kind = 31 ∨ o.kind = 32 ∨ o.kind = 33 ∨ o.kind = 34) (hM : M + o.s.size + o.t.size < M') (hM2 : M' ≤ 1073741824) :
    Calls Tryz.prog 34 #[.pointer (some ⟨B, 0, none⟩), opV o] w fun e w' => e = .returned (.bool true) ∧ Done base B M' w w' := by
  by_cases h30 : o.kind = 30
  · exact hashed_30 h o h30 (by omega) hM2
  · rcases Nat.eq_zero_or_pos σ.ha.length with h0 | h0
    · refine (hashed_none h o h30 h0).mono ?_
      rintro e w' ⟨h1, h2⟩
      exact ⟨h1, h2.more (by omega) hM2⟩
    · rcases hk with hk | hk | hk | hk | hk
      · exact absurd hk h30
      · exact hashed_31 h o hok hk h0 (by omega) hM2
      · exact hashed_32 h o hok hk h0 (by omega) hM2
      · exact hashed_33 h o hok hk h0 (by omega) hM2
      · exact hashed_34 h o hok hk h0 (by omega) hM2

set_option maxRecDepth 100000 in
set_option maxHeartbeats 800000 in
theorem engine_30 {base B : Nat} (o : OpR) (hok : o.ok) (hk : o.kind = 30) : Step 18 base B o := by
  intro T M M' σ w h hM hM2
  have z30 : (o.kind == 30) = true := beq_iff_eq.2 hk
  have hS : Std base B M σ w (w.alloc (.cells #[.int .i64 o.kind, .int .i64 o.a, .int .i64 o.b, .int .i64 o.c, .string o.s, .string o.t] 29)) := Std.alloc ⟨⟨T, h⟩, Below.refl _ _⟩ _
  have HS := hide hS
  have HK := hide hk
  clear hS h hk
  unfold opV
  go_enter Tryz.func18, Tryz.ntmps18
  go_wp2_with fail
  obtain ⟨⟨T9, hI9⟩, hB9⟩ := HS.out
  refine (hashed_any hI9 o hok (by have := HK.out; omega) hM hM2).mono ?_
  rintro e w5 ⟨rfl, hd⟩
  have HD := hide (Done.from hB9 hd)
  clear hd hI9 hB9 HS
  go_wp2
  go_ret
  exact ⟨rfl, HD.out⟩

set_option maxRecDepth 100000 in
set_option maxHeartbeats 800000 in
theorem engine_31 {base B : Nat} (o : OpR) (hok : o.ok) (hk : o.kind = 31) : Step 18 base B o := by
  intro T M M' σ w h hM hM2
  have z30 : (o.kind == 30) = false := beq_eq_false_iff_ne.2 (by rw [hk]; decide)
  have z31 : (o.kind == 31) = true := beq_iff_eq.2 hk
  have hS : Std base B M σ w (w.alloc (.cells #[.int .i64 o.kind, .int .i64 o.a, .int .i64 o.b, .int .i64 o.c, .string o.s, .string o.t] 29)) := Std.alloc ⟨⟨T, h⟩, Below.refl _ _⟩ _
  have HS := hide hS
  have HK := hide hk
  clear hS h hk
  unfold opV
  go_enter Tryz.func18, Tryz.ntmps18
  go_wp2_with fail
  obtain ⟨⟨T9, hI9⟩, hB9⟩ := HS.out
  refine (hashed_any hI9 o hok (by have := HK.out; omega) hM hM2).mono ?_
  rintro e w5 ⟨rfl, hd⟩
  have HD := hide (Done.from hB9 hd)
  clear hd hI9 hB9 HS
  go_wp2
  go_ret
  exact ⟨rfl, HD.out⟩

set_option maxRecDepth 100000 in
set_option maxHeartbeats 800000 in
theorem engine_32 {base B : Nat} (o : OpR) (hok : o.ok) (hk : o.kind = 32) : Step 18 base B o := by
  intro T M M' σ w h hM hM2
  have z30 : (o.kind == 30) = false := beq_eq_false_iff_ne.2 (by rw [hk]; decide)
  have z31 : (o.kind == 31) = false := beq_eq_false_iff_ne.2 (by rw [hk]; decide)
  have z32 : (o.kind == 32) = true := beq_iff_eq.2 hk
  have hS : Std base B M σ w (w.alloc (.cells #[.int .i64 o.kind, .int .i64 o.a, .int .i64 o.b, .int .i64 o.c, .string o.s, .string o.t] 29)) := Std.alloc ⟨⟨T, h⟩, Below.refl _ _⟩ _
  have HS := hide hS
  have HK := hide hk
  clear hS h hk
  unfold opV
  go_enter Tryz.func18, Tryz.ntmps18
  go_wp2_with fail
  obtain ⟨⟨T9, hI9⟩, hB9⟩ := HS.out
  refine (hashed_any hI9 o hok (by have := HK.out; omega) hM hM2).mono ?_
  rintro e w5 ⟨rfl, hd⟩
  have HD := hide (Done.from hB9 hd)
  clear hd hI9 hB9 HS
  go_wp2
  go_ret
  exact ⟨rfl, HD.out⟩

set_option maxRecDepth 100000 in
set_option maxHeartbeats 800000 in
theorem engine_33 {base B : Nat} (o : OpR) (hok : o.ok) (hk : o.kind = 33) : Step 18 base B o := by
  intro T M M' σ w h hM hM2
  have z30 : (o.kind == 30) = false := beq_eq_false_iff_ne.2 (by rw [hk]; decide)
  have z31 : (o.kind == 31) = false := beq_eq_false_iff_ne.2 (by rw [hk]; decide)
  have z32 : (o.kind == 32) = false := beq_eq_false_iff_ne.2 (by rw [hk]; decide)
  have z33 : (o.kind == 33) = true := beq_iff_eq.2 hk
  have hS : Std base B M σ w (w.alloc (.cells #[.int .i64 o.kind, .int .i64 o.a, .int .i64 o.b, .int .i64 o.c, .string o.s, .string o.t] 29)) := Std.alloc ⟨⟨T, h⟩, Below.refl _ _⟩ _
  have HS := hide hS
  have HK := hide hk
  clear hS h hk
  unfold opV
  go_enter Tryz.func18, Tryz.ntmps18
  go_wp2_with fail
  obtain ⟨⟨T9, hI9⟩, hB9⟩ := HS.out
  refine (hashed_any hI9 o hok (by have := HK.out; omega) hM hM2).mono ?_
  rintro e w5 ⟨rfl, hd⟩
  have HD := hide (Done.from hB9 hd)
  clear hd hI9 hB9 HS
  go_wp2
  go_ret
  exact ⟨rfl, HD.out⟩

set_option maxRecDepth 100000 in
set_option maxHeartbeats 800000 in
theorem engine_34 {base B : Nat} (o : OpR) (hok : o.ok) (hk : o.kind = 34) : Step 18 base B o := by
  intro T M M' σ w h hM hM2
  have z30 : (o.kind == 30) = false := beq_eq_false_iff_ne.2 (by rw [hk]; decide)
  have z31 : (o.kind == 31) = false := beq_eq_false_iff_ne.2 (by rw [hk]; decide)
  have z32 : (o.kind == 32) = false := beq_eq_false_iff_ne.2 (by rw [hk]; decide)
  have z33 : (o.kind == 33) = false := beq_eq_false_iff_ne.2 (by rw [hk]; decide)
  have z34 : (o.kind == 34) = true := beq_iff_eq.2 hk
  have hS : Std base B M σ w (w.alloc (.cells #[.int .i64 o.kind, .int .i64 o.a, .int .i64 o.b, .int .i64 o.c, .string o.s, .string o.t] 29)) := Std.alloc ⟨⟨T, h⟩, Below.refl _ _⟩ _
  have HS := hide hS
  have HK := hide hk
  clear hS h hk
  unfold opV
  go_enter Tryz.func18, Tryz.ntmps18
  go_wp2_with fail
  obtain ⟨⟨T9, hI9⟩, hB9⟩ := HS.out
  refine (hashed_any hI9 o hok (by have := HK.out; omega) hM hM2).mono ?_
  rintro e w5 ⟨rfl, hd⟩
  have HD := hide (Done.from hB9 hd)
  clear hd hI9 hB9 HS
  go_wp2
  go_ret
  exact ⟨rfl, HD.out⟩

set_option maxRecDepth 100000 in
set_option maxHeartbeats 1600000 in
theorem pure_50 {base B : Nat} (o : OpR) (hk : o.kind = 50) : Step 17 base B o := by
  intro T M M' σ w h hM hM2
  have z50 : (o.kind == 50) = true := beq_iff_eq.2 hk
  have hS : Std base B M σ w (w.alloc (.cells #[.int .i64 o.kind, .int .i64 o.a, .int .i64 o.b, .int .i64 o.c, .string o.s, .string o.t] 29)) := Std.alloc ⟨⟨T, h⟩, Below.refl _ _⟩ _
  have e4 : (w.alloc (.cells #[.int .i64 o.kind, .int .i64 o.a, .int .i64 o.b, .int .i64 o.c, .string o.s, .string o.t] 29)).cell? ⟨w.heap.size, 4, none⟩ = some (.string o.s) := World.cell?_alloc_at _ _ _ _ rfl
  have hsl : w.heap.size < (w.alloc (.cells #[.int .i64 o.kind, .int .i64 o.a, .int .i64 o.b, .int .i64 o.c, .string o.s, .string o.t] 29)).heap.size := by simp
  have HS := hide hS
  clear hS h hk
  unfold opV
  go_enter Tryz.func17, Tryz.ntmps17
  go_wp2_with fail
  obtain ⟨⟨T1, hI1⟩, hB1⟩ := HS.out
  refine (shaSum_any o.s _ (by omega) hI1.kt hI1.ht (Nat.le_trans hI1.two hI1.bsz)).mono ?_
  rintro e w2 ⟨rfl, hb2⟩
  have e42 : w2.cell? ⟨w.heap.size, 4, none⟩ = some (.string o.s) := by rw [hb2.cell hsl]; exact e4
  have HI2 := hide (hI1.below hb2)
  have HB2 := hide (hB1.trans (hb2.mono hI1.bsz))
  clear hI1 hB1 hb2 HS e4 hsl
  generalize hsm : (⟨(Sha.sum o.s.data.toList).toArray⟩ : ByteArray) = sm at *
  have hsml : sm.size = 32 := by rw [← hsm]; show (Sha.sum _).toArray.size = _; rw [List.size_toArray]; exact Sha.sum_len _
  have href := fun w => refSum_any o.s w (by omega)
  rw [hsm] at href
  have HREF := hide href
  clear hsm href
  go_wp2_with fail
  refine (HREF.out _).mono ?_
  rintro e w3 ⟨rfl, hb3⟩
  have HI3 := hide (HI2.out.below hb3)
  have HB3 := hide (HB2.out.trans (hb3.mono HI2.out.bsz))
  clear HI2 HB2 hb3 HREF e42
  go_wp2_with fail
  refine (word_any HI3.out sm (by omega) hM2 (by omega)).mono ?_
  rintro e w6 ⟨rfl, T6, v6, hI6, hS6⟩
  have HF : Done base B M' w w6 := ⟨T6, _, hI6, HB3.out.trans (hS6.below HI3.out.bsz HI3.out.old (by simp))⟩
  replace HF := hide HF
  clear hI6 hS6 HI3 HB3
  go_wp2
  go_ret
  exact ⟨by simp, HF.out⟩
end Go.Proofs.YtpogfcfgbnccjaaGreatDoor
namespace Go.Proofs.YtpogfcfgbnccjaaGreatDoor
open Go.ChangeShapes Go.WideShapes Go.ChangeAt Go.RowKit Go.Deep

def hashKinds : List Int := [30, 31, 32, 33, 34, 50]

set_option maxRecDepth 100000 in
set_option maxHeartbeats 800000 in
theorem hashes_any (v : Value) (l : List OpR) (w : World) (hv : Script w v l) (hk : KTab w) (hh : HTab w) (h2 : 2 ≤ w.heap.size) (hok : ∀ p ∈ l, p.ok) (hl : l.length ≤ 1152921504606846976) :
    Calls Tryz.prog 3 #[v] w fun e w' => e = .returned (.bool true) ∧ Below w.heap.size w w' := by
  have hb : Below w.heap.size w (w.alloc (.cells (intV hashKinds).toArray 3)) := (Below.refl _ _).alloc (Nat.le_refl _) _
  have HPL := hide (plays_any v l hashKinds w.heap.size (w.alloc (.cells (intV hashKinds).toArray 3)) (hv.alloc _) (Kinds.new _ _) (by decide) (hk.below hb h2) (hh.below hb h2) (Nat.le_trans h2 hb.size) hok hl
    (fun b o _ hkp h50 => pure_50 o (by have := kept_call hkp (by omega); simp [hashKinds] at this; omega))
    (fun b o ho hkp h30 h50 => by
      have h := kept_call hkp h30
      simp [hashKinds] at h
      have h' : o.kind = 30 ∨ o.kind = 31 ∨ o.kind = 32 ∨ o.kind = 33 ∨ o.kind = 34 := by omega
      rcases h' with h | h | h | h | h
      · exact engine_30 o ho h
      · exact engine_31 o ho h
      · exact engine_32 o ho h
      · exact engine_33 o ho h
      · exact engine_34 o ho h)
    (fun b o ho hkp h30 => own_steps hashKinds (by decide) b o ho hkp h30))
  have HB := hide hb
  clear hv hk hh h2 hok hl hb
  go_enter Tryz.func3, Tryz.ntmps3
  go_wp2_with fail
  refine HPL.out.mono ?_
  rintro e w' ⟨rfl, hb'⟩
  have HF := hide (HB.out.trans (hb'.mono HB.out.size))
  clear hb'
  go_wp2
  go_ret
  exact ⟨rfl, HF.out⟩

set_option maxRecDepth 100000 in
/-- FOR EVERY ARGUMENT, AND EVERY WORLD THAT HOLDS THE TABLES. -/
theorem hashes_contract (H : Type) (enc : TypeId × Value → H) (W : World) (base : Nat) (args : Array Value) (ds gs : List (DataW H)) (before : List MemPlace)
    (hval : ∀ (j : Nat) t v, Tryz.f3.params[j]? = some t → args[j]? = some v → Value.okWide Tryz.prog W .any base t v)
    (hW : DataW.Whole enc Tryz.prog Tryz.f3.params.toList Rows.hashesSpec.vars false W args.toList ds gs before)
    (hz : ∀ n ∈ DataW.weightsEach Tryz.prog Tryz.f3.params.toList (ds ++ gs), n ≤ reachBytes) (hL : laidMetH Tryz.prog Rows.hashesRow.laid W) :
    Calls Tryz.prog 3 args W fun e W' => ∃ v, e = .returned v ∧ Rows.hashesSpec.post enc Tryz.prog Tryz.f3 false true false false W args v W' := by
  have hW' := hW
  obtain ⟨p, q, hA0, hV, rfl, hfz, hnd⟩ := hW
  have hA : DataW.TrodAll enc Tryz.prog W 0 (fun _ => true) true Tryz.f3.params.toList args.toList ds p := hA0
  rw [Tryz.params3] at hA hval hz
  obtain ⟨v0, d0, rfl, rfl, h0⟩ := trodAll_one hA
  obtain ⟨rfl, rfl⟩ := trodVars_none hV
  obtain ⟨a0, len, cap, rfl⟩ := okWide_slice Tryz.underlying22 (hval 0 22 v0 rfl rfl)
  clear hA0 hfz hnd
  simp only [List.append_nil] at hW'
  have hlt : ∀ x ∈ p, x.block < W.heap.size := fun x hx => by simpa using hW'.lt x hx
  obtain ⟨l, hS, hok, hl⟩ := open_script h0 (fun n hn => hz n (DataW.weights_mem_each (j := 0) rfl rfl n hn))
  obtain ⟨hh, hk⟩ := tabs2 hL
  have h2 : 2 ≤ W.heap.size := World.block_lt_of_cell? W _ (hk 0 (by decide))
  refine (hashes_any _ l W hS hk hh h2 hok hl).mono fun e W' ⟨he, hb⟩ => ?_
  subst he
  refine ⟨_, rfl, _, _, _, [], p, [], hW', ?_, trodAll_mk1 (Below.trod laidOut (by kernel_rfl) (of_decide_eq_true (by kernel_rfl)) h0 hb hlt), rfl, hb.frame _, fun h => by cases h⟩
  exact trodAll_mk1 (shut_bool Tryz.underlying4 _)
end Go.Proofs.YtpogfcfgbnccjaaGreatDoor
namespace Go.Proofs.YtpogfcfgbnccjaaGreatDoor
open Go.ChangeShapes Go.WideShapes Go.ChangeAt Go.RowKit

theorem hashes_laid_met (os : Os) : laidMet Tryz.prog Rows.hashesRow.laid ((laidWorld Tryz.prog os).forCall (fun _ _ => 0) ⟨#[], #[.slice none 0 0], []⟩).memory :=
  laidMet_of_run' 8 (by kernel_rfl) (by kernel_rfl)
theorem hashes_reads (os : Os) {H : Type} (enc : TypeId × Value → H) : ∃ places, DataW.whole enc Tryz.prog ((laidWorld Tryz.prog os).forCall (fun _ _ => 0) ⟨#[], #[.slice none 0 0], []⟩).memory Tryz.f3.params.toList Rows.hashesSpec.vars false #[Value.slice none 0 0].toList 8 = some ([.nil], [], places) :=
  ⟨[], by kernel_rfl⟩

set_option maxRecDepth 100000 in
theorem hashes_lifted (os : Os) (started : os.Started) (H : Type) (enc : TypeId × Value → H) (F : Stop.Interp) :
    ReturnsInHanded {} Tryz.checked os 3 .any ((OpenSpec.ofChange Rows.hashesSpec).preRow enc Tryz.prog Tryz.f3 Rows.hashesRow.domain false Rows.hashesRow.laid) (((OpenSpec.ofChange Rows.hashesSpec).at F).post enc Tryz.prog Tryz.f3 false true false false) := by
  obtain ⟨places, hx⟩ := hashes_reads os enc
  refine returnsInHanded_of_row (C := Tryz.checked) (s := OpenSpec.ofChange Rows.hashesSpec) own started (by kernel_rfl) Tryz.func3
    (witness_row_at (enc := enc) (C := Tryz.checked) false (laidWorld Tryz.prog os) #[.slice none 0 0] rfl (by kernel_rfl) (by kernel_rfl) (by kernel_rfl)
      (OpenSpec.preRow_of_cond 8 hx (by kernel_rfl) (fun k hk => by cases hk) (by kernel_rfl) (hashes_laid_met os))) ?_
  intro W base args ds gs before hval hW _ _ hz hL _ _
  have hz' : ∀ n ∈ DataW.weightsEach Tryz.prog Tryz.f3.params.toList (ds ++ gs), n ≤ reachBytes := by
    have hz2 : (DataW.weightsEach Tryz.prog Tryz.f3.params.toList (ds ++ gs)).all (· ≤ reachBytes) = true := hz
    intro n hn
    simpa using List.all_eq_true.1 hz2 n hn
  exact hashes_contract H enc W base args ds gs before hval hW hz' hL

theorem hashes_j1 : Tryz.prog.inPlace 3 = Rows.hashesRow.inPlace := by kernel_rfl
theorem hashes_j2 : Tryz.prog.unfollowed 3 = Rows.hashesRow.unfollowed := by kernel_rfl
theorem hashes_j3 : Tryz.prog.recurses 3 = Rows.hashesRow.recurses := by kernel_rfl
theorem hashes_j4 : Tryz.prog.varsNamed 3 = Rows.hashesRow.named := by kernel_rfl
theorem hashes_j : joinedFacts Tryz.prog 3 Tryz.f3 (OpenSpec.ofChange Rows.hashesSpec).bare Rows.hashesRow = true := by
  unfold joinedFacts
  rw [hashes_j1, hashes_j2, hashes_j3, hashes_j4]
  kernel_rfl
theorem hashes_said : Rows.HashesSaid :=
  OpenClaim.holds_of_cond 3 Tryz.f3 rfl rfl rfl rfl rfl rfl rfl ⟨rfl, rfl, rfl, rfl, rfl⟩ rfl rfl rfl rfl rfl (by kernel_rfl) Tryz.func3 hashes_j
    (of_decide_eq_true (by kernel_rfl)) (by unfold Func.isWrapper; first | (rw [if_pos (by decide +kernel)]; kernel_rfl) | (rw [if_neg (by decide +kernel)]; exact ⟨rfl, rfl⟩))
    (fun os started H enc _ F => by rw [OpenClaim.pre_eq_preRow]; exact hashes_lifted os started H enc F)

theorem hashes_plain (f : FuncId) (fn : Func) (hf : Tryz.pinned.checked.prog.funcNamed "strongbox/strongboxlaw.Hashes" = some f) (hfn : Tryz.pinned.checked.prog.funcs[f]? = some fn) :
    false = Tryz.pinned.checked.prog.looks [] ∧ ∀ (j : Nat) t, fn.params[j]? = some t → Tryz.pinned.checked.prog.wantsStandIn t = false := by
  obtain rfl : f = 3 := Option.some.inj ((show Tryz.prog.funcNamed "strongbox/strongboxlaw.Hashes" = some 3 by kernel_rfl).symm.trans hf) |>.symm
  obtain rfl : fn = Tryz.f3 := (Option.some.inj (Tryz.func3.symm.trans hfn)).symm
  refine ⟨by kernel_rfl, fun j t ht => ?_⟩
  rw [Tryz.params3] at ht
  obtain rfl : t = 22 := by simpa using Array.mem_of_getElem? ht
  exact (show Tryz.prog.wantsStandIn 22 = false by kernel_rfl)

theorem hashes_card : Rows.HashesCardSaid :=
  Claim7.holds_tied_plain_at .later [] _ _ _ _ hashes_said (fun _ h => by cases h) (by kernel_rfl) (fun _ h => by cases h) hashes_row_tie rfl ⟨rfl, rfl⟩ (by kernel_rfl) rfl hashes_plain (by kernel_rfl)
end Go.Proofs.YtpogfcfgbnccjaaGreatDoor
