import Derived.Test.YtpogfcfgbnccjaaGreatDoorTa5
namespace Go.Proofs.YtpogfcfgbnccjaaGreatDoor
open Go.RowKit

/-- Where the step on a tagger stands, once the tagger is picked: its copy lies in block nb, the step in block sb. -/
structure TaAt (T : Tags) (base B M : Nat) (σ : Sig) (w : World) (o : OpR) (g n cap pk sb nb : Nat) (p : TagR) (w3 : World) : Prop where
  inv : Inv T base B M σ w3
  bel : Below w.heap.size w w3
  c6 : w3.cell? ⟨B, 9, none⟩ = some (.slice (some ⟨g, 0, none⟩) n cap)
  e0 : w3.cell? ⟨sb, 0, none⟩ = some (.int .i64 o.kind)
  e4 : w3.cell? ⟨sb, 4, none⟩ = some (.string o.s)
  p0 : w3.cell? ⟨nb, 0, none⟩ = some (.pointer (some ⟨p.b, 0, none⟩))
  pk : w3.cell? ⟨nb, 1, none⟩ = some (.string p.key)
  p1 : w3.cell? ⟨nb, 2, none⟩ = some (.string ⟨p.l.toArray⟩)
  tsb : T sb = (9, 9)
  tnb : T nb = (9, 9)
  lsb : sb < w3.heap.size
  lnb : nb < w3.heap.size

set_option maxRecDepth 100000 in
set_option maxHeartbeats 1600000 in
theorem tagged_41 (HPW : PWriteOK) {T : Tags} {base B M M' : Nat} {σ : Sig} {w : World} (h : Inv T base B M σ w) (o : OpR) (hok : o.ok) (hk : o.kind = 41) (h0 : 0 < σ.ta.length) (hM : M + o.s.size ≤ M') (hM2 : M' ≤ 1073741824) :
    Calls Tryz.prog 37 #[.pointer (some ⟨B, 0, none⟩), opV o] w fun e w' => e = .returned (.bool true) ∧ Done base B M' w w' := by
  have z : (o.kind == 40) = false := beq_eq_false_iff_ne.2 (by rw [hk]; decide)
  have z36 : (o.kind == 41) = true := beq_iff_eq.2 hk
  have hb0 : Below w.heap.size w (w.alloc (.cells #[.int .i64 o.kind, .int .i64 o.a, .int .i64 o.b, .int .i64 o.c, .string o.s, .string o.t] 29)) := (Below.refl _ _).alloc (Nat.le_refl _) _
  have hA := h.below hb0
  obtain ⟨g, cap, hv, hcap, hcm, hTg, hgl, hfz, hcell⟩ := RowT.cellsN (f := taV) 3 taV_len hA.rta h0
  have c6 := hA.hw.1.cell (i := 9) rfl
  rw [hv] at c6
  have hpk := pickN_lt o.a σ.ta.length h0
  obtain ⟨p, hp⟩ : ∃ p, σ.ta[pickN o.a σ.ta.length]? = some p := ⟨_, List.getElem?_eq_getElem hpk⟩
  have d0 := hcell _ p hp 0 _ rfl
  have d1 := hcell _ p hp 1 _ rfl
  have d2 := hcell _ p hp 2 _ rfl
  have hoa := hok.a
  have hlen := hA.bound.2.2.2.2.2.2.2.2.2.2
  have hMb := hA.bound.1
  have hpick := fun w => pick_any o.a σ.ta.length w hoa.1 hoa.2 h0 (by omega)
  have hbB := hA.hw.1.lt
  have hts := fresh_new T w (9, 9) w.heap.size (Nat.le_refl _)
  have hbase := h.bsz
  unfold opV
  unfold maxLen at hcm
  have HA := hide hA
  have HB := hide hb0
  have HV := hide hv
  have HP := hide hp
  have HPK := hide hpick
  have HTS := hide hts
  have jn : (0 : Int) < (σ.ta.length : Int) := by omega
  clear hA hb0 h hk hv hp hTg hfz hcell hpick hts
  generalize hn : σ.ta.length = n at *
  generalize hpe : pickN o.a n = pk at *
  go_enter Tryz.func37, Tryz.ntmps37
  go_wp2
  refine wp_letterW (fun w' => Inv (fresh T w (9, 9)) base B M σ w' ∧ Below w.heap.size w w' ∧ w'.cell? ⟨B, 9, none⟩ = some (.slice (some ⟨g, 0, none⟩) n cap) ∧ w'.cell? ⟨w.heap.size, 0, none⟩ = some (.int .i64 o.kind) ∧ w'.cell? ⟨w.heap.size, 1, none⟩ = some (.int .i64 o.a) ∧ w'.cell? ⟨w.heap.size, 4, none⟩ = some (.string o.s) ∧ w'.cell? ⟨g, pk * 3, none⟩ = some (.pointer (some ⟨p.b, 0, none⟩)) ∧ w'.cell? ⟨g, pk * 3 + 1, none⟩ = some (.string p.key) ∧ w'.cell? ⟨g, pk * 3 + 2, none⟩ = some (.string ⟨p.l.toArray⟩) ∧ w.heap.size < w'.heap.size ∧ g < w'.heap.size ∧ B < w'.heap.size) ⟨HA.out, HB.out, c6, (World.cell?_alloc_at _ _ _ _ rfl).trans rfl, (World.cell?_alloc_at _ _ _ _ rfl).trans rfl, (World.cell?_alloc_at _ _ _ _ rfl).trans rfl, d0, d1, d2, by simp, hgl, hbB⟩ ?_
  clear c6 d0 d1 d2 HA HB hgl hbB
  rintro wq ⟨HI, HB, c6, e0, e1, e4, d0, d1, d2, hsz, hgl, hbB⟩
  have key : ∀ (m : Nat) (w3 : World), Blk w3 wq.heap.size 85 (laidOver [.pointer none, .string ⟨#[]⟩, .string ⟨#[]⟩] 0 [.pointer (some ⟨p.b, 0, none⟩), .string p.key, .string ⟨p.l.toArray⟩]) → ((wq.drewN m).alloc (.cells #[.pointer none, .string ⟨#[]⟩, .string ⟨#[]⟩] 85)).grownBy w3 (some wq.heap.size) → TaAt (fresh (fresh T w (9, 9)) wq (9, 9)) base B M σ w o g n cap pk w.heap.size wq.heap.size p w3 := by
    intro m w3 hb hg
    have hb1 : Below wq.heap.size wq w3 := (World.grownBy.new (row := none) (World.grownBy.refl wq none |>.drewN m) hg).none
    refine ⟨HI.same (Nat.le_refl _) HI.bound.1 (Stays.of_below (9, 9) hb1), HB.trans (hb1.mono (by omega)), ?_, ?_, ?_, hb.cell rfl, hb.cell rfl, hb.cell rfl, ?_, fresh_new _ _ _ _ (Nat.le_refl _), ?_, hb.lt⟩
    · rw [hb1.cell (show B < wq.heap.size by omega)]; exact c6
    · rw [hb1.cell (show w.heap.size < wq.heap.size by omega)]; exact e0
    · rw [hb1.cell (show w.heap.size < wq.heap.size by omega)]; exact e4
    · rw [fresh_old _ _ _ _ hsz]; exact HTS.out
    · have := hb1.size; omega
  have HKEY := hide key
  clear key HI HB
  go_quiet ((go_at_call 55; exact Calls.quiet_of_same (HPK.out _)))
  go_wp2_with (refine wpList_store_blk rfl 85 (.tmp 10) (.tmp 81) rfl wq.heap.size 0 #[.pointer (some ⟨p.b, 0, none⟩), .string p.key, .string ⟨p.l.toArray⟩] rfl rfl (info3t _ _ _) (one3t _ _ _) 85 [.pointer none, .string ⟨#[]⟩, .string ⟨#[]⟩] (Blk.new rfl rfl) (Nat.le_refl 3) ?_; intro w3 hB3 hG3; obtain ⟨HI3, HB3, c63, e03, e43, p03, pk3, p13, tsb, tnb, lsb, lnb⟩ := HKEY.out _ w3 hB3 hG3; replace HI3 := hide HI3; replace HB3 := hide HB3; clear hB3 hG3 HKEY c6 e0 e1 e4 d0 d1 d2 HTS; generalize (fresh (fresh T w (9, 9)) wq (9, 9)) = T3 at *; generalize wq.heap.size = nb at *; generalize hsbe : w.heap.size = sb at *)
  obtain ⟨hr1, hk32, hr3⟩ := HI3.out.ta pk p HP.out
  have hTg : T3 g = (2, 9) := HI3.out.rta.2 g (by rw [HV.out]; rfl)
  have hTB := HI3.out.hw.2
  have m1 : B ≠ g := tag_ne hTB hTg (by simp)
  have m2 : sb ≠ g := tag_ne tsb hTg (by simp)
  have m3 : nb ≠ g := tag_ne tnb hTg (by simp)
  obtain ⟨gg, cp, hvv, _, _, _, hgl3, hfz3, hcl3⟩ := RowT.cellsN (f := taV) 3 taV_len HI3.out.rta (by rw [hn]; exact h0)
  rw [HV.out] at hvv
  injection hvv with hvv q7 q8
  injection hvv with hvv
  injection hvv with hvv q9 q10
  subst hvv
  clear q7 q8 q9 q10
  have d13 := hcl3 pk p HP.out 2 _ rfl
  have f13 := hfz3 (pk * 3 + 2) (by rw [hn]; omega)
  refine (HPW p.key p.l o.s T3 (35, pk) p.b _ hk32 (by omega) (by omega) hr1).mono ?_
  rintro e w4 ⟨rfl, hr4, hs4⟩
  have c64 : w4.cell? ⟨B, 9, none⟩ = some (.slice (some ⟨g, 0, none⟩) n cap) := hs4.cellOf c63 (by rw [hTB]; simp)
  have e44 : w4.cell? ⟨sb, 4, none⟩ = some (.string o.s) := hs4.cellOf e43 (by rw [tsb]; simp)
  have p14 : w4.cell? ⟨nb, 2, none⟩ = some (.string ⟨p.l.toArray⟩) := hs4.cellOf p13 (by rw [tnb]; simp)
  have d14 : w4.cell? ⟨g, pk * 3 + 2, none⟩ = some (.string ⟨p.l.toArray⟩) := hs4.cellOf d13 (by rw [hTg]; simp)
  have f14 : w4.frozen? ⟨g, pk * 3 + 2, none⟩ = false := hs4.frozenOf hgl3 f13 (by rw [hTg]; simp)
  have HF : Done base B M' w (w4.setCell ⟨g, pk * 3 + 2, none⟩ (.string (⟨p.l.toArray⟩ ++ o.s))) := by
    rw [ba_app]
    obtain ⟨T', σ', i1, i2⟩ := HI3.out.setTa (by omega) hM2 HP.out (p.l ++ o.s.data.toList) (by rw [List.length_append, text_len]; omega) hs4 hr4 HV.out hn.symm
    exact ⟨T', σ', i1, (HB3.out.mono hbase).trans i2⟩
  replace HF := hide HF
  clear hr1 hk32 hfz3 hcl3 d13 f13 c63 e03 e43 p03 pk3 p13 hr4 hs4 HI3 HB3 tsb tnb lsb lnb hTg hTB HPK hgl3 hgl hbB hsz hoa hok hpe hsbe hn HP HV
  have hcat : ¬ (2 ^ 63 - 1 < (⟨p.l.toArray⟩ : ByteArray).size + o.s.size) := by have := hr3; show ¬ (_ < p.l.toArray.size + _); simp only [List.size_toArray]; omega
  clear hr3 hM hM2 hMb
  generalize (⟨p.l.toArray⟩ : ByteArray) = pl at *
  generalize o.s = os at *
  have hcat2 : ¬ (9223372036854775807 < pl.size + os.size) := by simpa using hcat
  have jp : (pk : Int) < (n : Int) := by omega
  go_wp2
  go_region_held3 (fun w' => w'.cell? ⟨B, 9, none⟩ = some (.slice (some ⟨g, 0, none⟩) n cap) ∧ w'.cell? ⟨sb, 4, none⟩ = some (.string os) ∧ w'.cell? ⟨nb, 2, none⟩ = some (.string pl)) (refine ⟨?_, ?_, ?_⟩ <;> first | assumption | (rw [cell_other _ _ _ _ (by assumption)]; assumption)) (fail)
  go_wp2
  go_ret
  exact ⟨rfl, HF.out.drew⟩

set_option maxRecDepth 100000 in
set_option maxHeartbeats 1600000 in
theorem tagged_42 (HPS : PSumOK) {T : Tags} {base B M M' : Nat} {σ : Sig} {w : World} (h : Inv T base B M σ w) (o : OpR) (hok : o.ok) (hk : o.kind = 42) (h0 : 0 < σ.ta.length) (hM : M < M') (hM2 : M' ≤ 1073741824) :
    Calls Tryz.prog 37 #[.pointer (some ⟨B, 0, none⟩), opV o] w fun e w' => e = .returned (.bool true) ∧ Done base B M' w w' := by
  have z : (o.kind == 40) = false := beq_eq_false_iff_ne.2 (by rw [hk]; decide)
  have z36 : (o.kind == 41) = false := beq_eq_false_iff_ne.2 (by rw [hk]; decide)
  have hb0 : Below w.heap.size w (w.alloc (.cells #[.int .i64 o.kind, .int .i64 o.a, .int .i64 o.b, .int .i64 o.c, .string o.s, .string o.t] 29)) := (Below.refl _ _).alloc (Nat.le_refl _) _
  have hA := h.below hb0
  obtain ⟨g, cap, hv, hcap, hcm, hTg, hgl, hfz, hcell⟩ := RowT.cellsN (f := taV) 3 taV_len hA.rta h0
  have c6 := hA.hw.1.cell (i := 9) rfl
  rw [hv] at c6
  have hpk := pickN_lt o.a σ.ta.length h0
  obtain ⟨p, hp⟩ : ∃ p, σ.ta[pickN o.a σ.ta.length]? = some p := ⟨_, List.getElem?_eq_getElem hpk⟩
  have d0 := hcell _ p hp 0 _ rfl
  have d1 := hcell _ p hp 1 _ rfl
  have d2 := hcell _ p hp 2 _ rfl
  have hoa := hok.a
  have hlen := hA.bound.2.2.2.2.2.2.2.2.2.2
  have hMb := hA.bound.1
  have hpick := fun w => pick_any o.a σ.ta.length w hoa.1 hoa.2 h0 (by omega)
  have hbB := hA.hw.1.lt
  have hts := fresh_new T w (9, 9) w.heap.size (Nat.le_refl _)
  have hbase := h.bsz
  unfold opV
  unfold maxLen at hcm
  have HA := hide hA
  have HB := hide hb0
  have HV := hide hv
  have HP := hide hp
  have HPK := hide hpick
  have HTS := hide hts
  have jn : (0 : Int) < (σ.ta.length : Int) := by omega
  clear hA hb0 h hk hv hp hTg hfz hcell hpick hts
  generalize hn : σ.ta.length = n at *
  generalize hpe : pickN o.a n = pk at *
  go_enter Tryz.func37, Tryz.ntmps37
  go_wp2
  refine wp_letterW (fun w' => Inv (fresh T w (9, 9)) base B M σ w' ∧ Below w.heap.size w w' ∧ w'.cell? ⟨B, 9, none⟩ = some (.slice (some ⟨g, 0, none⟩) n cap) ∧ w'.cell? ⟨w.heap.size, 0, none⟩ = some (.int .i64 o.kind) ∧ w'.cell? ⟨w.heap.size, 1, none⟩ = some (.int .i64 o.a) ∧ w'.cell? ⟨w.heap.size, 4, none⟩ = some (.string o.s) ∧ w'.cell? ⟨g, pk * 3, none⟩ = some (.pointer (some ⟨p.b, 0, none⟩)) ∧ w'.cell? ⟨g, pk * 3 + 1, none⟩ = some (.string p.key) ∧ w'.cell? ⟨g, pk * 3 + 2, none⟩ = some (.string ⟨p.l.toArray⟩) ∧ w.heap.size < w'.heap.size ∧ g < w'.heap.size ∧ B < w'.heap.size) ⟨HA.out, HB.out, c6, (World.cell?_alloc_at _ _ _ _ rfl).trans rfl, (World.cell?_alloc_at _ _ _ _ rfl).trans rfl, (World.cell?_alloc_at _ _ _ _ rfl).trans rfl, d0, d1, d2, by simp, hgl, hbB⟩ ?_
  clear c6 d0 d1 d2 HA HB hgl hbB
  rintro wq ⟨HI, HB, c6, e0, e1, e4, d0, d1, d2, hsz, hgl, hbB⟩
  have key : ∀ (m : Nat) (w3 : World), Blk w3 wq.heap.size 85 (laidOver [.pointer none, .string ⟨#[]⟩, .string ⟨#[]⟩] 0 [.pointer (some ⟨p.b, 0, none⟩), .string p.key, .string ⟨p.l.toArray⟩]) → ((wq.drewN m).alloc (.cells #[.pointer none, .string ⟨#[]⟩, .string ⟨#[]⟩] 85)).grownBy w3 (some wq.heap.size) → TaAt (fresh (fresh T w (9, 9)) wq (9, 9)) base B M σ w o g n cap pk w.heap.size wq.heap.size p w3 := by
    intro m w3 hb hg
    have hb1 : Below wq.heap.size wq w3 := (World.grownBy.new (row := none) (World.grownBy.refl wq none |>.drewN m) hg).none
    refine ⟨HI.same (Nat.le_refl _) HI.bound.1 (Stays.of_below (9, 9) hb1), HB.trans (hb1.mono (by omega)), ?_, ?_, ?_, hb.cell rfl, hb.cell rfl, hb.cell rfl, ?_, fresh_new _ _ _ _ (Nat.le_refl _), ?_, hb.lt⟩
    · rw [hb1.cell (show B < wq.heap.size by omega)]; exact c6
    · rw [hb1.cell (show w.heap.size < wq.heap.size by omega)]; exact e0
    · rw [hb1.cell (show w.heap.size < wq.heap.size by omega)]; exact e4
    · rw [fresh_old _ _ _ _ hsz]; exact HTS.out
    · have := hb1.size; omega
  have HKEY := hide key
  clear key HI HB
  go_quiet ((go_at_call 55; exact Calls.quiet_of_same (HPK.out _)))
  go_wp2_with (refine wpList_store_blk rfl 85 (.tmp 10) (.tmp 81) rfl wq.heap.size 0 #[.pointer (some ⟨p.b, 0, none⟩), .string p.key, .string ⟨p.l.toArray⟩] rfl rfl (info3t _ _ _) (one3t _ _ _) 85 [.pointer none, .string ⟨#[]⟩, .string ⟨#[]⟩] (Blk.new rfl rfl) (Nat.le_refl 3) ?_; intro w3 hB3 hG3; obtain ⟨HI3, HB3, c63, e03, e43, p03, pk3, p13, tsb, tnb, lsb, lnb⟩ := HKEY.out _ w3 hB3 hG3; replace HI3 := hide HI3; replace HB3 := hide HB3; clear hB3 hG3 HKEY c6 e0 e1 e4 d0 d1 d2 HTS; generalize (fresh (fresh T w (9, 9)) wq (9, 9)) = T3 at *; generalize wq.heap.size = nb at *; generalize hsbe : w.heap.size = sb at *)
  obtain ⟨hr1, hk32, hr3⟩ := HI3.out.ta pk p HP.out
  refine (HPS p.key p.l T3 (35, pk) p.b _ hk32 (by omega) hr1).mono ?_
  rintro e w4 ⟨rfl, hr4, hs4⟩
  have p14 : w4.cell? ⟨nb, 2, none⟩ = some (.string ⟨p.l.toArray⟩) := hs4.cellOf p13 (by rw [tnb]; simp)
  have k14 : w4.cell? ⟨nb, 1, none⟩ = some (.string p.key) := hs4.cellOf pk3 (by rw [tnb]; simp)
  have HI4 := hide (HI3.out.keepTa HP.out hs4 hr4)
  have HB4 := hide ((HB3.out.mono hbase).trans (hs4.below HI3.out.bsz HI3.out.old (by simp)))
  generalize hpls : (⟨p.l.toArray⟩ : ByteArray) = pl at *
  have hpl1 : pl.data.toList = p.l := by rw [← hpls]
  have hpl2 : pl.size = p.l.length := by rw [← hpls]; exact List.size_toArray
  clear hpls hr1 hr4 hs4 HI3 HB3 c63 e03 e43 p03 pk3 p13 tsb tnb lsb lnb HPK
  rw [← hpl1]
  have href := fun w => refTag_all p.key pl w (by omega)
  unfold ansV Pol.tagAns at href
  rw [if_neg (fun hn => hn hk32)] at href
  generalize hsm : (⟨(Pol.tag p.key.data.toList pl.data.toList).toArray⟩ : ByteArray) = sm at *
  have hsml : sm.size = 16 := by rw [← hsm, two_size]; unfold Pol.tag; exact leB_len _ _
  have HREF := hide href
  clear hsm hpl1 href
  go_wp2_with fail
  refine (HREF.out _).mono ?_
  rintro e w5 ⟨rfl, hb5⟩
  have HI5 := hide (HI4.out.below hb5)
  have HB5 := hide (HB4.out.trans (hb5.mono HI4.out.bsz))
  clear HI4 HB4 hb5 HREF
  go_wp2_with fail
  refine (word_any HI5.out sm hM hM2 (by omega)).mono ?_
  rintro e w6 ⟨rfl, T6, v6, hI6, hS6⟩
  have HF : Done base B M' w w6 := ⟨T6, _, hI6, HB5.out.trans (hS6.below HI5.out.bsz HI5.out.old (by simp))⟩
  replace HF := hide HF
  clear hI6 hS6 HI5 HB5
  go_wp2
  go_ret
  exact ⟨by simp, HF.out⟩
end Go.Proofs.YtpogfcfgbnccjaaGreatDoor
namespace Go.Proofs.YtpogfcfgbnccjaaGreatDoor
open Go.RowKit

theorem stV_len (x : StrR) : (stV x).length = 5 := rfl
theorem infoSt : (Tryz.prog.info? 78).map (fun i => (i.zero, i.size, i.bytes)) = some (some (.agg #[.pointer none, .string ⟨#[]⟩, .string ⟨#[]⟩, .int .i64 0, .int .i64 0]), 5, 56) := by kernel_rfl
theorem infoStSz : (Tryz.prog.info? 78).map (·.size) = some 5 := by kernel_rfl
theorem info5 (a b c d e : Value) : (Tryz.prog.info? 78).map (·.size) = some (#[a, b, c, d, e] : Array Value).size := infoStSz
theorem one5 (a : Option Addr) (s t : ByteArray) (x y : Int) : (#[.pointer a, .string s, .string t, .int .i64 x, .int .i64 y] : Array Value).all (·.oneCell') = true := by simp [Value.oneCell']

/-- One stream more. -/
theorem Inv.addSt {T : Tags} {base B M M' : Nat} {σ : Sig} {w w1 : World} (h : Inv T base B M σ w) (hM : M < M') (hM2 : M' ≤ 1073741824) (x : StrR) (hx : SRep T w (34, σ.st.length) x.b x.key.data.toList x.nonce.data.toList x.n x.used) (hkz : x.key.size = 32) (hnz : x.nonce.size = 12) (hn : x.n ≤ 4294967295) (hl : x.used ≤ M')
    (o : Obj) (v' : Value) (hg : (w.alloc o).grownBy w1 σ.vst.ownBlock) (hr : Row w1 0 78 5 v' (σ.st.length + 1) ((σ.st.flatMap stV) ++ stV x)) (hat : v'.ownBlock = σ.vst.ownBlock ∨ ∃ g, v'.ownBlock = some g ∧ (w.alloc o).heap.size ≤ g) :
    ∃ T', Inv T' base B M' { σ with vst := v', st := σ.st ++ [x] } (w1.setCell ⟨B, 8, none⟩ v') ∧ Below base w (w1.setCell ⟨B, 8, none⟩ v') := by
  obtain ⟨q1, q2, q3⟩ := append_field (f := 8) h.hw h.rst (by decide) hg hr hat
  refine ⟨fresh T w (2, 8), h.ust (Nat.le_of_lt hM) v' (σ.st ++ [x]) (q1.mono (by intro c hc; rcases hc with h | h <;> simp [h])) q2 ?_ ?_ ?_ ?_, q1.below h.bsz h.old (by simp)⟩
  · have : (σ.st ++ [x]).flatMap stV = (σ.st.flatMap stV) ++ stV x := by simp [List.flatMap_append]
    rw [this]
    simpa using q3
  · intro i p hp
    by_cases hi : i < σ.st.length
    · rw [List.getElem?_append_left hi] at hp
      obtain ⟨a1, a2, a3, a4, a5⟩ := h.st i p hp
      exact ⟨a1.stays q1 (by simp), a2, a3, a4, by omega⟩
    · have hi2 : i = σ.st.length := by
        have := (List.getElem?_eq_some_iff.1 hp).1
        simp at this; omega
      subst hi2
      simp at hp
      subst hp
      exact ⟨hx.stays q1 (by simp), hkz, hnz, hn, hl⟩
  · have := h.bound; simp; omega
  · exact sizes_more (Nat.le_of_lt hM) h.sizes

/-- A stream has changed in itself alone, and says what it said. -/
theorem Inv.keepSt {T T' : Tags} {base B M : Nat} {σ : Sig} {w w' : World} (h : Inv T base B M σ w) {k : Nat} {p : StrR} (hp : σ.st[k]? = some p) (hs : Stays T T' w w' (fun c => c = (34, k))) (hr : SRep T' w' (34, k) p.b p.key.data.toList p.nonce.data.toList p.n p.used) : Inv T' base B M σ w' :=
  h.ust (Nat.le_refl _) σ.vst σ.st (hs.mono (by intro c hc; simp [hc])) (h.hw.stays hs (by simp)) (h.rst.stays hs (by simp)) (fun i q hq => by
    by_cases hik : i = k
    · subst hik
      obtain rfl : q = p := Option.some.inj (hq.symm.trans hp)
      exact ⟨hr, (h.st i q hq).2⟩
    · obtain ⟨a1, a2⟩ := h.st i q hq
      exact ⟨a1.stays hs (by simp [hik]), a2⟩) h.bound h.sizes

set_option maxRecDepth 100000 in
set_option maxHeartbeats 1600000 in
theorem streamed_none {T : Tags} {base B M : Nat} {σ : Sig} {w : World} (h : Inv T base B M σ w) (o : OpR) (hk : o.kind ≠ 38) (h0 : σ.st.length = 0) :
    Calls Tryz.prog 36 #[.pointer (some ⟨B, 0, none⟩), opV o] w fun e w' => e = .returned (.bool true) ∧ Done base B M w w' := by
  have z : (o.kind == 38) = false := beq_eq_false_iff_ne.2 hk
  have hb0 : Below w.heap.size w (w.alloc (.cells #[.int .i64 o.kind, .int .i64 o.a, .int .i64 o.b, .int .i64 o.c, .string o.s, .string o.t] 29)) := (Below.refl _ _).alloc (Nat.le_refl _) _
  have hA := h.below hb0
  obtain ⟨ao, cap, hv, hcap⟩ := hA.rst.zero
  have c7 := hA.hw.1.cell (i := 8) rfl
  rw [hv, h0] at c7
  unfold opV
  have HA := hide hA
  have HB := hide hb0
  have H := hide h
  clear hA hb0 h hk hv
  go_enter Tryz.func36, Tryz.ntmps36
  go_wp2
  go_ret
  exact ⟨rfl, _, σ, HA.out, HB.out.mono H.out.bsz⟩

end Go.Proofs.YtpogfcfgbnccjaaGreatDoor
namespace Go.Proofs.YtpogfcfgbnccjaaGreatDoor
open Go.RowKit

set_option maxRecDepth 100000 in
set_option maxHeartbeats 20000000 in
theorem streamed_38 (HBG : BeginOK) {T : Tags} {base B M M' : Nat} {σ : Sig} {w : World} (h : Inv T base B M σ w) (o : OpR) (hok : o.ok) (hk : o.kind = 38) (hM : M < M') (hM2 : M' ≤ 1073741824) :
    Calls Tryz.prog 36 #[.pointer (some ⟨B, 0, none⟩), opV o] w fun e w' => e = .returned (.bool true) ∧ Done base B M' w w' := by
  have z : (o.kind == 38) = true := beq_iff_eq.2 hk
  have hS : Std base B M σ w (w.alloc (.cells #[.int .i64 o.kind, .int .i64 o.a, .int .i64 o.b, .int .i64 o.c, .string o.s, .string o.t] 29)) := Std.alloc ⟨⟨T, h⟩, Below.refl _ _⟩ _
  have hsl : w.heap.size < (w.alloc (.cells #[.int .i64 o.kind, .int .i64 o.a, .int .i64 o.b, .int .i64 o.c, .string o.s, .string o.t] 29)).heap.size := by simp
  have e1 : (w.alloc (.cells #[.int .i64 o.kind, .int .i64 o.a, .int .i64 o.b, .int .i64 o.c, .string o.s, .string o.t] 29)).cell? ⟨w.heap.size, 1, none⟩ = some (.int .i64 o.a) := World.cell?_alloc_at _ _ _ _ rfl
  have hoa := hok.a
  have hMb := h.bound.1
  have HS := hide hS
  clear hS h hk
  unfold opV
  have HREF := hide (fun w => refBlock_all σ.key σ.nonce o.a w)
  have HPRG := hide (fun T c w => HBG σ.key σ.nonce o.a T c w hoa.1 hoa.2)
  have HA0 := hide (show (Cha.blockAns σ.key σ.nonce o.a).2 = 0 → σ.key.size = 32 ∧ σ.nonce.size = 12 ∧ 0 ≤ o.a ∧ o.a ≤ 4294967295 from by
    intro h0
    unfold Cha.blockAns at h0
    split at h0
    · cases h0
    · split at h0
      · cases h0
      · omega)
  unfold ansV at HREF
  generalize (⟨(Cha.blockAns σ.key σ.nonce o.a).1.toArray⟩ : ByteArray) = sm at *
  generalize (Cha.blockAns σ.key σ.nonce o.a).2 = er at *
  have HC12 := hide (show ∀ w2, Std base B M σ w w2 → w2.cell? ⟨B, 12, none⟩ = some (.string σ.key) from fun w2 h2 => h2.field 12 rfl)
  have HC13 := hide (show ∀ w2, Std base B M σ w w2 → w2.cell? ⟨B, 13, none⟩ = some (.string σ.nonce) from fun w2 h2 => h2.field 13 rfl)
  have c12 := HC12.out _ HS.out
  have c13 := HC13.out _ HS.out
  clear hok
  go_enter Tryz.func36, Tryz.ntmps36
  go_wp2
  refine wp_letterW (fun w' => Std base B M σ w w' ∧ w'.cell? ⟨w.heap.size, 1, none⟩ = some (.int .i64 o.a) ∧ w.heap.size < w'.heap.size) ⟨HS.out, e1, hsl⟩ ?_
  clear c12 c13 e1 HS hsl
  rintro wq ⟨hSq, e1, hsl⟩
  have c12 := HC12.out _ hSq
  have c13 := HC13.out _ hSq
  obtain ⟨⟨T1, hI1⟩, hB1⟩ := hSq.drew
  have hBlt : B < wq.drew.heap.size := hI1.hw.1.lt
  have HI1 := hide hI1
  have HB1 := hide hB1
  clear hI1 hB1 hSq
  go_region_held3 (fun w' => w'.cell? ⟨B, 12, none⟩ = some (.string σ.key) ∧ w'.cell? ⟨B, 13, none⟩ = some (.string σ.nonce) ∧ w'.cell? ⟨w.heap.size, 1, none⟩ = some (.int .i64 o.a)) (refine ⟨?_, ?_, ?_⟩ <;> first | assumption | (exact (hb2.cell hBlt).trans (by assumption)) | (exact (hb2.cell hsl).trans (by assumption))) ((go_at_call 67; refine (HPRG.out T1 (34, σ.st.length) _).mono ?_; rintro e w2 ⟨⟨v, rfl, hv⟩, hb2⟩))
  rename_i hH
  obtain ⟨g12, g13, g1⟩ := hH
  have hsl2 : w.heap.size < w2.heap.size := Nat.lt_of_lt_of_le hsl hb2.size
  have hBlt2 : B < w2.heap.size := Nat.lt_of_lt_of_le hBlt hb2.size
  have HI2 := hide (HI1.out.same (Nat.le_refl _) HI1.out.bound.1 (Stays.of_below (34, σ.st.length) hb2))
  have HB2 := hide (HB1.out.trans (hb2.mono HI1.out.bsz))
  have HV := hide hv
  generalize fresh T1 wq.drew (34, σ.st.length) = T2 at *
  clear hb2 hv HI1 HB1 c12 c13 e1 HPRG hsl hBlt
  go_wp2
  go_region_held3 (fun w' => w'.cell? ⟨B, 12, none⟩ = some (.string σ.key) ∧ w'.cell? ⟨B, 13, none⟩ = some (.string σ.nonce) ∧ w'.cell? ⟨w.heap.size, 1, none⟩ = some (.int .i64 o.a)) (refine ⟨?_, ?_, ?_⟩ <;> first | assumption | (exact (hb3.cell hBlt2).trans (by assumption)) | (exact (hb3.cell hsl2).trans (by assumption))) ((go_at_call 57; refine (HREF.out _).mono ?_; rintro e w3 ⟨rfl, hb3⟩))
  rename_i hH
  obtain ⟨d12, d13, d1⟩ := hH
  have hst2 : Stays T2 T2 w2 w2.drew (fun _ => False) := ⟨rfl, rfl, rfl, Nat.le_refl _, fun _ _ => rfl, fun _ _ _ => rfl⟩
  have HST := hide (hst2.trans (Stays.of_below (9, 9) hb3))
  have HI3 := hide (HI2.out.drew.below hb3)
  have hdr : Below base w2 w2.drew := ⟨rfl, rfl, rfl, Nat.le_refl _, fun _ _ => rfl⟩
  have HB3 := hide (HB2.out.trans (hdr.trans (hb3.mono HI2.out.bsz)))
  generalize fresh T2 w2.drew (9, 9) = T3 at *
  clear hdr hst2 hb3 HI2 HB2 HREF g12 g13 g1 hsl2 hBlt2 HC12 HC13
  by_cases her : er = 0
  · obtain ⟨hk32, hn12, ha0, ha1⟩ := HA0.out her
    obtain ⟨b, rfl, hrep⟩ : ∃ b, v = .pointer (some ⟨b, 0, none⟩) ∧ SRep T2 w2 (34, σ.st.length) b σ.key.data.toList σ.nonce.data.toList o.a.toNat 0 := by
      rcases HV.out with ⟨hn, _⟩ | ⟨_, hb⟩
      · exact absurd her hn
      · exact hb
    have HREP := hide (hrep.stays HST.out id)
    obtain ⟨m, hm⟩ : ∃ m : Nat, o.a = (m : Int) := ⟨o.a.toNat, by omega⟩
    rw [hm, Int.toNat_natCast] at HREP
    rw [hm] at d1
    have HM := hide (show m ≤ 4294967295 by omega)
    have HKZ := hide hk32
    have HNZ := hide hn12
    subst her
    have hI3 := HI3.out
    have d8 := hI3.hw.1.cell (i := 8) rfl
    have hlen := hI3.bound.2.2.2.2.2.2.2.2.2.1
    have key := fun (w1 : World) (o : Obj) (hg : (w3.drew.alloc o).grownBy w1 σ.vst.ownBlock) => (hI3.drew.hw.1.alloc o).grown hg (fun e => absurd (hI3.rst.2 B e.symm) (by rw [hI3.hw.2]; decide))
    have HK := hide key
    have HROW := hide hI3.rst.1
    have d8a : (w3.alloc (.cells #[.pointer (some ⟨b, 0, none⟩), .string σ.key, .string σ.nonce, .int .i64 (m : Int), .int .i64 0] 78)).cell? ⟨B, 8, none⟩ = some σ.vst := World.cell?_alloc_later w3 _ _ d8
    clear key hI3 hrep HV HST HA0 hk32 hn12 ha0 ha1 hoa hm
    go_wp2
    go_region_law (refine step_append_n 78 39 _ 5 56 (by decide) infoSt Tryz.underlying39 rfl (by decide) rfl (.tmp 56) (.tmp 69) rfl _ σ.st.length _ rfl (HROW.out.drew.alloc _) w3.heap.size [.pointer (some ⟨b, 0, none⟩), .string σ.key, .string σ.nonce, .int .i64 (m : Int), .int .i64 0] rfl rfl ?_ new_at ?_ ?_; (intro u hu; simp at hu; rcases hu with rfl | rfl | rfl | rfl | rfl <;> rfl); omega; intro v1 w1 hr1 hg1 hat1; obtain ⟨g9, cap9, cur9, rfl, _⟩ := hr1.open (Nat.succ_pos _); have b1 := HK.out w1 _ hg1; have d7 := b1.cell (i := 8) rfl; have f1 := b1.frozen)
    all_goals
      go_wp2
      go_ret
      refine ⟨rfl, ?_⟩
      obtain ⟨T', h1, h2⟩ := HI3.out.drew.addSt hM hM2 ⟨b, σ.key, σ.nonce, m, 0⟩ HREP.out HKZ.out HNZ.out HM.out (Nat.zero_le _) _ _ hg1 hr1 hat1
      exact ⟨T', _, h1, HB3.out.trans ⟨h2.os, h2.tape, h2.output, h2.size, h2.block⟩⟩
  · obtain rfl : v = .pointer none := by
      rcases HV.out with ⟨_, hn⟩ | ⟨hb, _⟩
      · exact hn
      · exact absurd hb her
    have z0 : (er == 0) = false := beq_eq_false_iff_ne.2 her
    have HF := hide (show Done base B M' w w3 from ⟨_, _, HI3.out.more (by omega) hM2, HB3.out⟩)
    clear HV HST HA0 HI3 HB3 her d12 d13 d1
    go_wp2
    go_ret
    exact ⟨by simp, HF.out⟩
end Go.Proofs.YtpogfcfgbnccjaaGreatDoor
namespace Go.Proofs.YtpogfcfgbnccjaaGreatDoor
open Go.RowKit
theorem Inv.uswo {T T' : Tags} {base B M M' : Nat} {σ : Sig} {w w' : World} (h : Inv T base B M σ w) (hM : M ≤ M') (v' : Value) (wo' : List ByteArray) (st' : List StrR)
    (hs : Stays T T' w w' (fun c => c = (1, 0) ∨ c = (2, 8) ∨ c = (2, 10) ∨ c.1 = 34))
    (hw : At T' w' (1, 0) B 44 ({ σ with vwo := v', wo := wo', st := st' } : Sig).cells)
    (nrwo : RowT T' w' (2, 10) 9 1 v' wo'.length (strV wo'))
    (nrst : RowT T' w' (2, 8) 78 5 σ.vst st'.length (st'.flatMap stV))
    (nst : ∀ i p, st'[i]? = some p → SRep T' w' (34, i) p.b p.key.data.toList p.nonce.data.toList p.n p.used ∧ p.key.size = 32 ∧ p.nonce.size = 12 ∧ p.n ≤ 4294967295 ∧ p.used ≤ M')
    (hbd : M' ≤ 1073741824 ∧ ({ σ with vwo := v', wo := wo', st := st' } : Sig).sp.length ≤ M' ∧ ({ σ with vwo := v', wo := wo', st := st' } : Sig).si.length ≤ M' ∧ ({ σ with vwo := v', wo := wo', st := st' } : Sig).so.length ≤ M' ∧ ({ σ with vwo := v', wo := wo', st := st' } : Sig).ha.length ≤ M' ∧ ({ σ with vwo := v', wo := wo', st := st' } : Sig).wo.length ≤ M' ∧ ({ σ with vwo := v', wo := wo', st := st' } : Sig).re.length ≤ M' ∧ ({ σ with vwo := v', wo := wo', st := st' } : Sig).ls.length ≤ M' ∧ ({ σ with vwo := v', wo := wo', st := st' } : Sig).ma.length ≤ M' ∧ ({ σ with vwo := v', wo := wo', st := st' } : Sig).st.length ≤ M' ∧ ({ σ with vwo := v', wo := wo', st := st' } : Sig).ta.length ≤ M')
    (hsz : (∀ x ∈ ({ σ with vwo := v', wo := wo', st := st' } : Sig).wo, x.size ≤ M' + 65536) ∧ (∀ x ∈ ({ σ with vwo := v', wo := wo', st := st' } : Sig).re, x.size ≤ M' + 65536) ∧ (∀ p ∈ ({ σ with vwo := v', wo := wo', st := st' } : Sig).ls, p.l.length ≤ M' ∧ ∀ x ∈ p.l, x.size ≤ M' + 65536) ∧ ({ σ with vwo := v', wo := wo', st := st' } : Sig).file.size ≤ M' + 65536 ∧ ({ σ with vwo := v', wo := wo', st := st' } : Sig).key.size ≤ M' + 65536 ∧ ({ σ with vwo := v', wo := wo', st := st' } : Sig).nonce.size ≤ M' + 65536) :
    Inv T' base B M' { σ with vwo := v', wo := wo', st := st' } w' where
  hw := hw
  rsp := h.rsp.stays hs (by simp)
  rsi := h.rsi.stays hs (by simp)
  rso := h.rso.stays hs (by simp)
  rha := h.rha.stays hs (by simp)
  rma := h.rma.stays hs (by simp)
  rst := nrst
  rta := h.rta.stays hs (by simp)
  rwo := nrwo
  rre := h.rre.stays hs (by simp)
  rls := h.rls.stays hs (by simp)
  rlw := h.rlw.stays hs (by simp)
  sp := fun i p hp => ⟨(h.sp i p hp).1.stays hs (by simp), (h.sp i p hp).2.stays hs (by simp)⟩
  si := fun i p hp => ⟨⟨(h.si i p hp).1.1.stays hs (by simp), (h.si i p hp).1.2.stays hs (by simp)⟩, (h.si i p hp).2.1.stays hs (by simp), (h.si i p hp).2.2.stays hs (by simp)⟩
  so := fun i p hp => ⟨⟨(h.so i p hp).1.1.stays hs (by simp), (h.so i p hp).1.2.stays hs (by simp)⟩, (h.so i p hp).2.1.stays hs (by simp), (h.so i p hp).2.2.stays hs (by simp)⟩
  ha := fun i p hp => ⟨(h.ha i p hp).1.stays hs (h.ha i p hp).2.1 (by simp), (hs.tag _ (h.ha i p hp).1.lt).trans (h.ha i p hp).2.1, Nat.le_trans (h.ha i p hp).2.2 hM⟩
  ma := fun i p hp => ⟨(h.ma i p hp).1.stays hs (h.ma i p hp).2.1 (by simp), (hs.tag _ (h.ma i p hp).1.lt).trans (h.ma i p hp).2.1, Nat.le_trans (h.ma i p hp).2.2.1 hM, Nat.le_trans (h.ma i p hp).2.2.2 (by omega)⟩
  st := nst
  ta := fun i p hp => ⟨(h.ta i p hp).1.stays hs (by simp), (h.ta i p hp).2.1, Nat.le_trans (h.ta i p hp).2.2 hM⟩
  ls := fun i p hp => ⟨(h.ls i p hp).1.stays hs (by simp), (h.ls i p hp).2.stays hs (by simp)⟩
  old := fun g hg => (hs.tag g (Nat.lt_of_lt_of_le hg h.bsz)).trans (h.old g hg)
  two := h.two
  bsz := Nat.le_trans h.bsz hs.size
  kt := h.kt.below (hs.below h.bsz h.old (by simp)) h.two
  ht := h.ht.below (hs.below h.bsz h.old (by simp)) h.two
  bound := hbd
  sizes := hsz
end Go.Proofs.YtpogfcfgbnccjaaGreatDoor
namespace Go.Proofs.YtpogfcfgbnccjaaGreatDoor
open Go.RowKit

set_option maxHeartbeats 800000 in
/-- The law's word, told of the world's block and of its row alone. -/
theorem word_raw {T : Tags} {B : Nat} {σ : Sig} {w : World} (hw : At T w (1, 0) B 44 σ.cells) (hr : RowT T w (2, 10) 9 1 σ.vwo σ.wo.length (strV σ.wo)) (hlen : σ.wo.length ≤ 1073741824) (s : ByteArray) :
    Calls Tryz.prog 23 #[.pointer (some ⟨B, 0, none⟩), .string s] w fun e w' => e = .returned (.tuple #[]) ∧ ∃ v', At (fresh T w (2, 10)) w' (1, 0) B 44 ({ σ with vwo := v', wo := σ.wo ++ [s] } : Sig).cells ∧ RowT (fresh T w (2, 10)) w' (2, 10) 9 1 v' (σ.wo ++ [s]).length (strV (σ.wo ++ [s])) ∧ Stays T (fresh T w (2, 10)) w w' (fun c => c = (1, 0) ∨ c = (2, 10)) := by
  have c10 := hw.1.cell (i := 10) rfl
  have hf := hw.1.frozen
  have key := fun (w1 : World) (o : Obj) (hg : (w.alloc o).grownBy w1 σ.vwo.ownBlock) => (hw.1.alloc o).grown hg (fun e => absurd (hr.2 B e.symm) (by rw [hw.2]; decide))
  have HK := hide key
  have HW := hide hw
  have HR := hide hr
  clear key hw hr
  go_enter Tryz.func23, Tryz.ntmps23
  go_wp2_with (at_builtin; refine wpList_append_str rfl (.tmp 8) (.tmp 10) rfl _ σ.wo.length σ.wo rfl (HR.out.1.alloc _) _ s rfl (World.cell?_alloc_at _ _ _ _ rfl) ?_ ?_; omega; intro v1 w1 hr1 hg1 hat1; obtain ⟨g9, cap9, cur9, rfl, _⟩ := hr1.open (Nat.succ_pos _); have b1 := HK.out w1 _ hg1; have d10 := b1.cell (i := 10) rfl; have f1 := b1.frozen)
  go_end0
  obtain ⟨q1, q2, q3⟩ := append_field (f := 10) HW.out HR.out (by decide) hg1 hr1 hat1
  exact ⟨rfl, .slice (some ⟨g9, 0, none⟩) (σ.wo.length + 1) cap9, q2, by simpa using q3, q1⟩

/-- A stream has given its bytes, the law its word, and so was what the law keeps of it. -/
theorem Inv.setSt {T T4 T6 : Tags} {base B M M' : Nat} {σ : Sig} {w w4 w6 : World} (h : Inv T base B M σ w) (hM : M < M') (hM2 : M' ≤ 1073741824) {k : Nat} {p : StrR} (hp : σ.st[k]? = some p) (u : Nat) (hu : u ≤ M') (s : ByteArray) (hsz : s.size ≤ M' + 65536) (v' : Value)
    (hs4 : Stays T T4 w w4 (fun c => c = (34, k))) (hr4 : SRep T4 w4 (34, k) p.b p.key.data.toList p.nonce.data.toList p.n u)
    (hw6 : At T6 w6 (1, 0) B 44 ({ σ with vwo := v', wo := σ.wo ++ [s] } : Sig).cells) (hr6 : RowT T6 w6 (2, 10) 9 1 v' (σ.wo ++ [s]).length (strV (σ.wo ++ [s]))) (hs6 : Stays T4 T6 w4 w6 (fun c => c = (1, 0) ∨ c = (2, 10)))
    {g n cap : Nat} (hv : σ.vst = .slice (some ⟨g, 0, none⟩) n cap) (hn : n = σ.st.length) :
    Done base B M' w (w6.setCell ⟨g, k * 5 + 4, none⟩ (.int .i64 (u : Nat))) := by
  have hkl := (List.getElem?_eq_some_iff.1 hp).1
  have hTg : T g = (2, 8) := h.rst.2 g (by rw [hv]; rfl)
  have hr6' := (h.rst.stays hs4 (by simp)).stays hs6 (by simp)
  have hTg6 : T6 g = (2, 8) := hr6'.2 g (by rw [hv]; rfl)
  have hsc : Stays T6 T6 w6 (w6.setCell ⟨g, k * 5 + 4, none⟩ (.int .i64 (u : Nat))) (fun c => c = (2, 8)) := Stays.setCell w6 g _ _ hTg6
  have hs46 : Stays T T6 w w6 (fun c => c = (1, 0) ∨ c = (2, 10) ∨ c = (34, k)) := (hs4.mono (fun c hc => .inr (.inr hc))).trans (hs6.mono (fun c hc => by rcases hc with h | h <;> simp [h]))
  have hs : Stays T T6 w (w6.setCell ⟨g, k * 5 + 4, none⟩ (.int .i64 (u : Nat))) (fun c => c = (1, 0) ∨ c = (2, 8) ∨ c = (2, 10) ∨ c = (34, k)) := (hs46.mono (fun c hc => by rcases hc with h | h | h <;> simp [h])).trans (hsc.mono (fun c hc => by simp [hc]))
  refine ⟨T6, { σ with vwo := v', wo := σ.wo ++ [s], st := σ.st.set k ⟨p.b, p.key, p.nonce, p.n, u⟩ }, h.uswo (Nat.le_of_lt hM) v' (σ.wo ++ [s]) (σ.st.set k ⟨p.b, p.key, p.nonce, p.n, u⟩) (hs.mono (by intro c hc; rcases hc with h | h | h | h <;> simp [h])) (hw6.stays hsc (by simp)) (hr6.stays hsc (by simp)) ?_ ?_ ?_ ?_, hs.below h.bsz h.old (by simp)⟩
  · rw [flat_set 5 stV stV_len 4 (by decide) σ.st k p ⟨p.b, p.key, p.nonce, p.n, u⟩ (.int .i64 (u : Nat)) hp rfl, List.length_set]
    exact hr6'.put (by rw [hv, hn]) _
  · intro i p' hp'
    by_cases hik : i = k
    · subst hik
      rw [List.getElem?_set_self hkl] at hp'
      obtain rfl := Option.some.inj hp'
      obtain ⟨_, a2, a3, a4, _⟩ := h.st i p hp
      exact ⟨(hr4.stays hs6 (by simp)).stays hsc (by simp), a2, a3, a4, hu⟩
    · rw [List.getElem?_set_ne (fun e => hik e.symm)] at hp'
      obtain ⟨a1, a2, a3, a4, a5⟩ := h.st i p' hp'
      exact ⟨a1.stays hs (by simp [hik]), a2, a3, a4, by omega⟩
  · have := h.bound; simp; omega
  · obtain ⟨z1, z2, z3, z4, z5, z6⟩ := h.sizes
    refine ⟨fun x hx => ?_, fun x hx => by have := z2 x hx; omega, fun p hp => ⟨by have := (z3 p hp).1; omega, fun x hx => by have := (z3 p hp).2 x hx; omega⟩, by show σ.file.size ≤ _; omega, by show σ.key.size ≤ _; omega, by show σ.nonce.size ≤ _; omega⟩
    rcases List.mem_append.1 hx with hx | hx
    · have := z1 x hx; omega
    · rw [List.mem_singleton.1 hx]; exact hsz

/-- Where the step on a stream stands, once the stream is picked: its copy lies in block nb, the step in block sb. -/
structure StAt (T : Tags) (base B M : Nat) (σ : Sig) (w : World) (o : OpR) (g n cap pk sb nb : Nat) (p : StrR) (w3 : World) : Prop where
  inv : Inv T base B M σ w3
  bel : Below w.heap.size w w3
  c6 : w3.cell? ⟨B, 8, none⟩ = some (.slice (some ⟨g, 0, none⟩) n cap)
  e4 : w3.cell? ⟨sb, 4, none⟩ = some (.string o.s)
  p0 : w3.cell? ⟨nb, 0, none⟩ = some (.pointer (some ⟨p.b, 0, none⟩))
  p1 : w3.cell? ⟨nb, 1, none⟩ = some (.string p.key)
  p2 : w3.cell? ⟨nb, 2, none⟩ = some (.string p.nonce)
  p3 : w3.cell? ⟨nb, 3, none⟩ = some (.int .i64 (p.n : Nat))
  p4 : w3.cell? ⟨nb, 4, none⟩ = some (.int .i64 (p.used : Nat))
  tsb : T sb = (9, 9)
  tnb : T nb = (9, 9)
  lsb : sb < w3.heap.size
  lnb : nb < w3.heap.size

set_option maxRecDepth 100000 in
set_option maxHeartbeats 1600000 in
theorem streamed_39 (HX : XorOK) {T : Tags} {base B M M' : Nat} {σ : Sig} {w : World} (h : Inv T base B M σ w) (o : OpR) (hok : o.ok) (hk : o.kind = 39) (h0 : 0 < σ.st.length) (hM : M + o.s.size < M') (hM2 : M' ≤ 1073741824) :
    Calls Tryz.prog 36 #[.pointer (some ⟨B, 0, none⟩), opV o] w fun e w' => e = .returned (.bool true) ∧ Done base B M' w w' := by
  have z : (o.kind == 38) = false := beq_eq_false_iff_ne.2 (by rw [hk]; decide)
  have hb0 : Below w.heap.size w (w.alloc (.cells #[.int .i64 o.kind, .int .i64 o.a, .int .i64 o.b, .int .i64 o.c, .string o.s, .string o.t] 29)) := (Below.refl _ _).alloc (Nat.le_refl _) _
  have hA := h.below hb0
  obtain ⟨g, cap, hv, hcap, hcm, hTg, hgl, hfz, hcell⟩ := RowT.cellsN (f := stV) 5 stV_len hA.rst h0
  have c6 := hA.hw.1.cell (i := 8) rfl
  rw [hv] at c6
  have hpk := pickN_lt o.a σ.st.length h0
  obtain ⟨p, hp⟩ : ∃ p, σ.st[pickN o.a σ.st.length]? = some p := ⟨_, List.getElem?_eq_getElem hpk⟩
  have d0 := hcell _ p hp 0 _ rfl
  have d1 := hcell _ p hp 1 _ rfl
  have d2 := hcell _ p hp 2 _ rfl
  have d3 := hcell _ p hp 3 _ rfl
  have d4 := hcell _ p hp 4 _ rfl
  have hoa := hok.a
  have hlen := hA.bound.2.2.2.2.2.2.2.2.2.1
  have hMb := hA.bound.1
  have hpick := fun w => pick_any o.a σ.st.length w hoa.1 hoa.2 h0 (by omega)
  have hbB := hA.hw.1.lt
  have hts := fresh_new T w (9, 9) w.heap.size (Nat.le_refl _)
  have hbase := h.bsz
  unfold opV
  unfold maxLen at hcm
  have HA := hide hA
  have HB := hide hb0
  have HV := hide hv
  have HP := hide hp
  have HPK := hide hpick
  have HTS := hide hts
  have jn : (0 : Int) < (σ.st.length : Int) := by omega
  clear hA hb0 h hk hv hp hTg hfz hcell hpick hts
  generalize hn : σ.st.length = n at *
  generalize hpe : pickN o.a n = pk at *
  go_enter Tryz.func36, Tryz.ntmps36
  go_wp2
  refine wp_letterW (fun w' => Inv (fresh T w (9, 9)) base B M σ w' ∧ Below w.heap.size w w' ∧ w'.cell? ⟨B, 8, none⟩ = some (.slice (some ⟨g, 0, none⟩) n cap) ∧ w'.cell? ⟨w.heap.size, 1, none⟩ = some (.int .i64 o.a) ∧ w'.cell? ⟨w.heap.size, 4, none⟩ = some (.string o.s) ∧ w'.cell? ⟨g, pk * 5, none⟩ = some (.pointer (some ⟨p.b, 0, none⟩)) ∧ w'.cell? ⟨g, pk * 5 + 1, none⟩ = some (.string p.key) ∧ w'.cell? ⟨g, pk * 5 + 2, none⟩ = some (.string p.nonce) ∧ w'.cell? ⟨g, pk * 5 + 3, none⟩ = some (.int .i64 (p.n : Nat)) ∧ w'.cell? ⟨g, pk * 5 + 4, none⟩ = some (.int .i64 (p.used : Nat)) ∧ w.heap.size < w'.heap.size ∧ g < w'.heap.size ∧ B < w'.heap.size) ⟨HA.out, HB.out, c6, (World.cell?_alloc_at _ _ _ _ rfl).trans rfl, (World.cell?_alloc_at _ _ _ _ rfl).trans rfl, d0, d1, d2, d3, d4, by simp, hgl, hbB⟩ ?_
  clear c6 d0 d1 d2 d3 d4 HA HB hgl hbB
  rintro wq ⟨HI, HB, c6, e1, e4, d0, d1, d2, d3, d4, hsz, hgl, hbB⟩
  have key : ∀ (m : Nat) (w3 : World), Blk w3 wq.heap.size 78 (laidOver [.pointer none, .string ⟨#[]⟩, .string ⟨#[]⟩, .int .i64 0, .int .i64 0] 0 [.pointer (some ⟨p.b, 0, none⟩), .string p.key, .string p.nonce, .int .i64 (p.n : Nat), .int .i64 (p.used : Nat)]) → ((wq.drewN m).alloc (.cells #[.pointer none, .string ⟨#[]⟩, .string ⟨#[]⟩, .int .i64 0, .int .i64 0] 78)).grownBy w3 (some wq.heap.size) → StAt (fresh (fresh T w (9, 9)) wq (9, 9)) base B M σ w o g n cap pk w.heap.size wq.heap.size p w3 := by
    intro m w3 hb hg
    have hb1 : Below wq.heap.size wq w3 := (World.grownBy.new (row := none) (World.grownBy.refl wq none |>.drewN m) hg).none
    refine ⟨HI.same (Nat.le_refl _) HI.bound.1 (Stays.of_below (9, 9) hb1), HB.trans (hb1.mono (by omega)), ?_, ?_, hb.cell rfl, hb.cell rfl, hb.cell rfl, hb.cell rfl, hb.cell rfl, ?_, fresh_new _ _ _ _ (Nat.le_refl _), ?_, hb.lt⟩
    · rw [hb1.cell (show B < wq.heap.size by omega)]; exact c6
    · rw [hb1.cell (show w.heap.size < wq.heap.size by omega)]; exact e4
    · rw [fresh_old _ _ _ _ hsz]; exact HTS.out
    · have := hb1.size; omega
  have HKEY := hide key
  clear key HI HB
  go_quiet ((go_at_call 55; exact Calls.quiet_of_same (HPK.out _)))
  go_wp2_with (refine wpList_store_blk rfl 78 (.tmp 10) (.tmp 100) rfl wq.heap.size 0 #[.pointer (some ⟨p.b, 0, none⟩), .string p.key, .string p.nonce, .int .i64 (p.n : Nat), .int .i64 (p.used : Nat)] rfl rfl (info5 _ _ _ _ _) (one5 _ _ _ _ _) 78 [.pointer none, .string ⟨#[]⟩, .string ⟨#[]⟩, .int .i64 0, .int .i64 0] (Blk.new rfl rfl) (Nat.le_refl 5) ?_; intro w3 hB3 hG3; obtain ⟨HI3, HB3, c63, e43, p03, p13, p23, p33, p43, tsb, tnb, lsb, lnb⟩ := HKEY.out _ w3 hB3 hG3; replace HI3 := hide HI3; replace HB3 := hide HB3; clear hB3 hG3 HKEY c6 e1 e4 d0 d1 d2 d3 d4 HTS; generalize (fresh (fresh T w (9, 9)) wq (9, 9)) = T3 at *; generalize wq.heap.size = nb at *; generalize hsbe : w.heap.size = sb at *)
  obtain ⟨hr1, hk32, hn12, hnn, hused⟩ := HI3.out.st pk p HP.out
  have hos : o.s.size ≤ 1073741824 := by omega
  refine (HX p.key p.nonce p.n p.used o.s T3 (34, pk) p.b _ hk32 hn12 hnn (by omega) (by omega) hr1).mono ?_
  rintro e w4 ⟨rfl, hr4, hs4⟩
  have e44 : w4.cell? ⟨sb, 4, none⟩ = some (.string o.s) := hs4.cellOf e43 (by rw [tsb]; simp)
  have p14 : w4.cell? ⟨nb, 1, none⟩ = some (.string p.key) := hs4.cellOf p13 (by rw [tnb]; simp)
  have p24 : w4.cell? ⟨nb, 2, none⟩ = some (.string p.nonce) := hs4.cellOf p23 (by rw [tnb]; simp)
  have p34 : w4.cell? ⟨nb, 3, none⟩ = some (.int .i64 (p.n : Nat)) := hs4.cellOf p33 (by rw [tnb]; simp)
  have p44 : w4.cell? ⟨nb, 4, none⟩ = some (.int .i64 (p.used : Nat)) := hs4.cellOf p43 (by rw [tnb]; simp)
  have HREF := hide (fun w => refXor_all p.key p.nonce p.n p.used o.s w hk32 hn12 hnn (by omega) (by omega))
  have hal := Cha.xorAns_len p.key p.nonce p.n p.used o.s
  have hsm0 : (⟨(Cha.xorAns p.key p.nonce p.n p.used o.s).1.toArray⟩ : ByteArray).size = (Cha.xorAns p.key p.nonce p.n p.used o.s).1.length := List.size_toArray
  rw [← hsm0] at hal
  unfold ansV at HREF
  unfold ansV
  clear hsm0 HPK hoa hok hk32 hn12 hnn hr1
  generalize (⟨(Cha.xorAns p.key p.nonce p.n p.used o.s).1.toArray⟩ : ByteArray) = sm at *
  generalize (Cha.xorAns p.key p.nonce p.n p.used o.s).2 = er at *
  by_cases her : er = 0
  · rw [if_pos her] at hr4
    subst her
    have hTg : T3 g = (2, 8) := HI3.out.rst.2 g (by rw [HV.out]; rfl)
    obtain ⟨gg, cp, hvv, _, _, _, hgl3, hfz3, hcl3⟩ := RowT.cellsN (f := stV) 5 stV_len HI3.out.rst (by rw [hn]; exact h0)
    rw [HV.out] at hvv
    injection hvv with hvv q7 q8
    injection hvv with hvv
    injection hvv with hvv q9 q10
    subst hvv
    clear q7 q8 q9 q10
    have d43 := hcl3 pk p HP.out 4 _ rfl
    have f43 := hfz3 (pk * 5 + 4) (by rw [hn]; omega)
    have hwl := HI3.out.bound.2.2.2.2.2.1
    clear hfz3 hcl3 e43 p03 p13 p23 p33 p43
    have m1 : B ≠ g := tag_ne HI3.out.hw.2 hTg (by simp)
    have m2 : sb ≠ g := tag_ne tsb hTg (by simp)
    have m3 : nb ≠ g := tag_ne tnb hTg (by simp)
    have HR4 := hide hr4
    have HS4 := hide hs4
    clear hr4 hs4
    go_wp2_with fail
    refine (HREF.out _).mono ?_
    rintro e w5 ⟨rfl, hb5⟩
    have hs45 := Stays.of_below (T := fresh T3 w3 (34, pk)) (S := fun _ => False) (9, 9) hb5
    have hs5 := HS4.out.trans (hs45.mono (S' := fun c => c = (34, pk)) (fun c hc => hc.elim))
    have hr5 := HR4.out.stays hs45 id
    generalize fresh (fresh T3 w3 (34, pk)) w4 (9, 9) = T5 at *
    have hw5 := HI3.out.hw.stays hs5 (by simp)
    have hrw5 := HI3.out.rwo.stays hs5 (by simp)
    have e45 : w5.cell? ⟨sb, 4, none⟩ = some (.string o.s) := hs45.cellOf e44 id
    have p45 : w5.cell? ⟨nb, 4, none⟩ = some (.int .i64 (p.used : Nat)) := hs45.cellOf p44 id
    have d45 : w5.cell? ⟨g, pk * 5 + 4, none⟩ = some (.int .i64 (p.used : Nat)) := hs5.cellOf d43 (by rw [hTg]; simp)
    have f45 : w5.frozen? ⟨g, pk * 5 + 4, none⟩ = false := hs5.frozenOf hgl3 f43 (by rw [hTg]; simp)
    have t5sb : T5 sb = (9, 9) := (hs5.tag sb lsb).trans tsb
    have t5nb : T5 nb = (9, 9) := (hs5.tag nb lnb).trans tnb
    have t5g : T5 g = (2, 8) := (hs5.tag g hgl3).trans hTg
    have l5g : g < w5.heap.size := Nat.lt_of_lt_of_le hgl3 hs5.size
    have HS5 := hide hs5
    have HR5 := hide hr5
    have HW5 := hide hw5
    have HRW5 := hide hrw5
    clear hs5 hs45 hr5 hw5 hrw5 hb5 HREF HS4 HR4 e44 p14 p24 p34 p44 c63 d43 f43 hTg tsb tnb lsb lnb hgl3
    go_wp2_with fail
    refine (word_raw HW5.out HRW5.out (by omega) sm).mono ?_
    rintro e w6 ⟨rfl, v6, hw6, hr6, hs6⟩
    have e46 : w6.cell? ⟨sb, 4, none⟩ = some (.string o.s) := hs6.cellOf e45 (by rw [t5sb]; simp)
    have p46 : w6.cell? ⟨nb, 4, none⟩ = some (.int .i64 (p.used : Nat)) := hs6.cellOf p45 (by rw [t5nb]; simp)
    have d46 : w6.cell? ⟨g, pk * 5 + 4, none⟩ = some (.int .i64 (p.used : Nat)) := hs6.cellOf d45 (by rw [t5g]; simp)
    have f46 : w6.frozen? ⟨g, pk * 5 + 4, none⟩ = false := hs6.frozenOf l5g f45 (by rw [t5g]; simp)
    have c86 := hw6.1.cell (i := 8) rfl
    have hvst : σ.vst = .slice (some ⟨g, 0, none⟩) n cap := HV.out
    have c66 : w6.cell? ⟨B, 8, none⟩ = some (.slice (some ⟨g, 0, none⟩) n cap) := c86.trans (congrArg some hvst)
    have HF : Done base B M' w (w6.setCell ⟨g, pk * 5 + 4, none⟩ (.int .i64 ((p.used + o.s.size : Nat)))) := by
      obtain ⟨T', σ', i1, i2⟩ := HI3.out.setSt (by omega) hM2 HP.out (p.used + o.s.size) (by omega) sm (by omega) v6 HS5.out HR5.out hw6 hr6 hs6 HV.out hn.symm
      exact ⟨T', σ', i1, (HB3.out.mono hbase).trans i2⟩
    replace HF := hide HF
    clear c86 hvst hw6 hr6 hs6 HS5 HR5 HW5 HRW5 e45 p45 d45 f45 t5sb t5nb t5g l5g HI3 HB3 HP HV hpe hsbe hn hal hwl
    have jp : (pk : Int) < (n : Int) := by omega
    generalize p.used = us at *
    generalize o.s = os at *
    have jw : (us : Int) + (os.size : Int) ≤ 9223372036854775807 := by omega
    go_wp2
    go_region_held3 (fun w' => w'.cell? ⟨B, 8, none⟩ = some (.slice (some ⟨g, 0, none⟩) n cap) ∧ w'.cell? ⟨sb, 4, none⟩ = some (.string os) ∧ w'.cell? ⟨nb, 4, none⟩ = some (.int .i64 (us : Nat))) (refine ⟨?_, ?_, ?_⟩ <;> first | assumption | (rw [cell_other _ _ _ _ (by assumption)]; assumption)) (fail)
    go_wp2
    go_ret
    exact ⟨by simp, HF.out.drew⟩
  · rw [if_neg her] at hr4
    have z0 : (er == 0) = false := beq_eq_false_iff_ne.2 her
    have HI4 := hide (HI3.out.keepSt HP.out hs4 hr4)
    have HB4 := hide ((HB3.out.mono hbase).trans (hs4.below HI3.out.bsz HI3.out.old (by simp)))
    clear hr4 hs4 HI3 HB3 c63 e43 p03 p13 p23 p33 p43 tsb tnb lsb lnb her
    go_wp2_with fail
    refine (HREF.out _).mono ?_
    rintro e w5 ⟨rfl, hb5⟩
    have HI5 := hide (HI4.out.below hb5)
    have HB5 := hide (HB4.out.trans (hb5.mono HI4.out.bsz))
    clear HI4 HB4 hb5 HREF
    go_wp2_with fail
    refine (word_any HI5.out sm (Nat.lt_of_le_of_lt (Nat.le_add_right _ _) hM) hM2 (by omega)).mono ?_
    rintro e w6 ⟨rfl, T6, v6, hI6, hS6⟩
    have HF : Done base B M' w w6 := ⟨T6, _, hI6, HB5.out.trans (hS6.below HI5.out.bsz HI5.out.old (by simp))⟩
    replace HF := hide HF
    clear hI6 hS6 HI5 HB5
    go_wp2
    go_ret
    exact ⟨by simp, HF.out⟩
end Go.Proofs.YtpogfcfgbnccjaaGreatDoor
namespace Go.Proofs.YtpogfcfgbnccjaaGreatDoor
open Go.RowKit

theorem streamed_any (HBG : BeginOK) (HX : XorOK) {T : Tags} {base B M M' : Nat} {σ : Sig} {w : World} (h : Inv T base B M σ w) (o : OpR) (hok : o.ok) (hk : o.kind = 38 ∨ o.kind = 39) (hM : M + o.s.size + o.t.size < M') (hM2 : M' ≤ 1073741824) :
    Calls Tryz.prog 36 #[.pointer (some ⟨B, 0, none⟩), opV o] w fun e w' => e = .returned (.bool true) ∧ Done base B M' w w' := by
  by_cases h38 : o.kind = 38
  · exact streamed_38 HBG h o hok h38 (by omega) hM2
  · rcases Nat.eq_zero_or_pos σ.st.length with h0 | h0
    · refine (streamed_none h o h38 h0).mono ?_
      rintro e w' ⟨h1, h2⟩
      exact ⟨h1, h2.more (by omega) hM2⟩
    · rcases hk with hk | hk
      · exact absurd hk h38
      · exact streamed_39 HX h o hok hk h0 (by omega) hM2

theorem tagged_any (HPB : PBeginOK) (HPW : PWriteOK) (HPS : PSumOK) {T : Tags} {base B M M' : Nat} {σ : Sig} {w : World} (h : Inv T base B M σ w) (o : OpR) (hok : o.ok) (hk : o.kind = 40 ∨ o.kind = 41 ∨ o.kind = 42) (hM : M + o.s.size + o.t.size < M') (hM2 : M' ≤ 1073741824) :
    Calls Tryz.prog 37 #[.pointer (some ⟨B, 0, none⟩), opV o] w fun e w' => e = .returned (.bool true) ∧ Done base B M' w w' := by
  by_cases h40 : o.kind = 40
  · exact tagged_40 HPB h o h40 (by omega) hM2
  · rcases Nat.eq_zero_or_pos σ.ta.length with h0 | h0
    · refine (tagged_none h o h40 h0).mono ?_
      rintro e w' ⟨h1, h2⟩
      exact ⟨h1, h2.more (by omega) hM2⟩
    · rcases hk with hk | hk | hk
      · exact absurd hk h40
      · exact tagged_41 HPW h o hok hk h0 (by omega) hM2
      · exact tagged_42 HPS h o hok hk h0 (by omega) hM2

set_option maxRecDepth 100000 in
set_option maxHeartbeats 800000 in
theorem engine_40 (HPB : PBeginOK) (HPW : PWriteOK) (HPS : PSumOK) {base B : Nat} (o : OpR) (hok : o.ok) (hk : o.kind = 40) : Step 18 base B o := by
  intro T M M' σ w h hM hM2
  have z30 : (o.kind == 30) = false := beq_eq_false_iff_ne.2 (by rw [hk]; decide)
  have z31 : (o.kind == 31) = false := beq_eq_false_iff_ne.2 (by rw [hk]; decide)
  have z32 : (o.kind == 32) = false := beq_eq_false_iff_ne.2 (by rw [hk]; decide)
  have z33 : (o.kind == 33) = false := beq_eq_false_iff_ne.2 (by rw [hk]; decide)
  have z34 : (o.kind == 34) = false := beq_eq_false_iff_ne.2 (by rw [hk]; decide)
  have z35 : (o.kind == 35) = false := beq_eq_false_iff_ne.2 (by rw [hk]; decide)
  have z36 : (o.kind == 36) = false := beq_eq_false_iff_ne.2 (by rw [hk]; decide)
  have z37 : (o.kind == 37) = false := beq_eq_false_iff_ne.2 (by rw [hk]; decide)
  have z38 : (o.kind == 38) = false := beq_eq_false_iff_ne.2 (by rw [hk]; decide)
  have z39 : (o.kind == 39) = false := beq_eq_false_iff_ne.2 (by rw [hk]; decide)
  have z40 : (o.kind == 40) = true := beq_iff_eq.2 hk
  have hS : Std base B M σ w (w.alloc (.cells #[.int .i64 o.kind, .int .i64 o.a, .int .i64 o.b, .int .i64 o.c, .string o.s, .string o.t] 29)) := Std.alloc ⟨⟨T, h⟩, Below.refl _ _⟩ _
  have HS := hide hS
  have HK := hide hk
  clear hS h hk
  unfold opV
  go_enter Tryz.func18, Tryz.ntmps18
  go_wp2_with fail
  obtain ⟨⟨T9, hI9⟩, hB9⟩ := HS.out
  refine (tagged_any HPB HPW HPS hI9 o hok (by have := HK.out; omega) hM hM2).mono ?_
  rintro e w5 ⟨rfl, hd⟩
  have HD := hide (Done.from hB9 hd)
  clear hd hI9 hB9 HS
  go_wp2
  go_ret
  exact ⟨rfl, HD.out⟩

set_option maxRecDepth 100000 in
set_option maxHeartbeats 800000 in
theorem engine_41 (HPB : PBeginOK) (HPW : PWriteOK) (HPS : PSumOK) {base B : Nat} (o : OpR) (hok : o.ok) (hk : o.kind = 41) : Step 18 base B o := by
  intro T M M' σ w h hM hM2
  have z30 : (o.kind == 30) = false := beq_eq_false_iff_ne.2 (by rw [hk]; decide)
  have z31 : (o.kind == 31) = false := beq_eq_false_iff_ne.2 (by rw [hk]; decide)
  have z32 : (o.kind == 32) = false := beq_eq_false_iff_ne.2 (by rw [hk]; decide)
  have z33 : (o.kind == 33) = false := beq_eq_false_iff_ne.2 (by rw [hk]; decide)
  have z34 : (o.kind == 34) = false := beq_eq_false_iff_ne.2 (by rw [hk]; decide)
  have z35 : (o.kind == 35) = false := beq_eq_false_iff_ne.2 (by rw [hk]; decide)
  have z36 : (o.kind == 36) = false := beq_eq_false_iff_ne.2 (by rw [hk]; decide)
  have z37 : (o.kind == 37) = false := beq_eq_false_iff_ne.2 (by rw [hk]; decide)
  have z38 : (o.kind == 38) = false := beq_eq_false_iff_ne.2 (by rw [hk]; decide)
  have z39 : (o.kind == 39) = false := beq_eq_false_iff_ne.2 (by rw [hk]; decide)
  have z40 : (o.kind == 40) = false := beq_eq_false_iff_ne.2 (by rw [hk]; decide)
  have z41 : (o.kind == 41) = true := beq_iff_eq.2 hk
  have hS : Std base B M σ w (w.alloc (.cells #[.int .i64 o.kind, .int .i64 o.a, .int .i64 o.b, .int .i64 o.c, .string o.s, .string o.t] 29)) := Std.alloc ⟨⟨T, h⟩, Below.refl _ _⟩ _
  have HS := hide hS
  have HK := hide hk
  clear hS h hk
  unfold opV
  go_enter Tryz.func18, Tryz.ntmps18
  go_wp2_with fail
  obtain ⟨⟨T9, hI9⟩, hB9⟩ := HS.out
  refine (tagged_any HPB HPW HPS hI9 o hok (by have := HK.out; omega) hM hM2).mono ?_
  rintro e w5 ⟨rfl, hd⟩
  have HD := hide (Done.from hB9 hd)
  clear hd hI9 hB9 HS
  go_wp2
  go_ret
  exact ⟨rfl, HD.out⟩

set_option maxRecDepth 100000 in
set_option maxHeartbeats 800000 in
theorem engine_42 (HPB : PBeginOK) (HPW : PWriteOK) (HPS : PSumOK) {base B : Nat} (o : OpR) (hok : o.ok) (hk : o.kind = 42) : Step 18 base B o := by
  intro T M M' σ w h hM hM2
  have z30 : (o.kind == 30) = false := beq_eq_false_iff_ne.2 (by rw [hk]; decide)
  have z31 : (o.kind == 31) = false := beq_eq_false_iff_ne.2 (by rw [hk]; decide)
  have z32 : (o.kind == 32) = false := beq_eq_false_iff_ne.2 (by rw [hk]; decide)
  have z33 : (o.kind == 33) = false := beq_eq_false_iff_ne.2 (by rw [hk]; decide)
  have z34 : (o.kind == 34) = false := beq_eq_false_iff_ne.2 (by rw [hk]; decide)
  have z35 : (o.kind == 35) = false := beq_eq_false_iff_ne.2 (by rw [hk]; decide)
  have z36 : (o.kind == 36) = false := beq_eq_false_iff_ne.2 (by rw [hk]; decide)
  have z37 : (o.kind == 37) = false := beq_eq_false_iff_ne.2 (by rw [hk]; decide)
  have z38 : (o.kind == 38) = false := beq_eq_false_iff_ne.2 (by rw [hk]; decide)
  have z39 : (o.kind == 39) = false := beq_eq_false_iff_ne.2 (by rw [hk]; decide)
  have z40 : (o.kind == 40) = false := beq_eq_false_iff_ne.2 (by rw [hk]; decide)
  have z41 : (o.kind == 41) = false := beq_eq_false_iff_ne.2 (by rw [hk]; decide)
  have z42 : (o.kind == 42) = true := beq_iff_eq.2 hk
  have hS : Std base B M σ w (w.alloc (.cells #[.int .i64 o.kind, .int .i64 o.a, .int .i64 o.b, .int .i64 o.c, .string o.s, .string o.t] 29)) := Std.alloc ⟨⟨T, h⟩, Below.refl _ _⟩ _
  have HS := hide hS
  have HK := hide hk
  clear hS h hk
  unfold opV
  go_enter Tryz.func18, Tryz.ntmps18
  go_wp2_with fail
  obtain ⟨⟨T9, hI9⟩, hB9⟩ := HS.out
  refine (tagged_any HPB HPW HPS hI9 o hok (by have := HK.out; omega) hM hM2).mono ?_
  rintro e w5 ⟨rfl, hd⟩
  have HD := hide (Done.from hB9 hd)
  clear hd hI9 hB9 HS
  go_wp2
  go_ret
  exact ⟨rfl, HD.out⟩
end Go.Proofs.YtpogfcfgbnccjaaGreatDoor
namespace Go.Proofs.YtpogfcfgbnccjaaGreatDoor
open Go.ChangeShapes Go.WideShapes Go.ChangeAt Go.RowKit Go.Deep

def tagsKinds : List Int := [40, 41, 42, 56]

set_option maxRecDepth 100000 in
set_option maxHeartbeats 800000 in
theorem tags_any (HPB : PBeginOK) (HPW : PWriteOK) (HPS : PSumOK) (HPT : PTagOK) (v : Value) (l : List OpR) (w : World) (hv : Script w v l) (hk : KTab w) (hh : HTab w) (h2 : 2 ≤ w.heap.size) (hok : ∀ p ∈ l, p.ok) (hl : l.length ≤ 1152921504606846976) :
    Calls Tryz.prog 6 #[v] w fun e w' => e = .returned (.bool true) ∧ Below w.heap.size w w' := by
  have hb : Below w.heap.size w (w.alloc (.cells (intV tagsKinds).toArray 3)) := (Below.refl _ _).alloc (Nat.le_refl _) _
  have HPL := hide (plays_any v l tagsKinds w.heap.size (w.alloc (.cells (intV tagsKinds).toArray 3)) (hv.alloc _) (Kinds.new _ _) (by decide) (hk.below hb h2) (hh.below hb h2) (Nat.le_trans h2 hb.size) hok hl
    (fun b o ho hkp h50 => by
      have h := kept_call hkp (by omega)
      simp [tagsKinds] at h
      have h' : o.kind = 56 := by omega
      have h := h'
      exact pure_cipher o (by omega) (cipher_56 HPT o ho h))
    (fun b o ho hkp h30 h50 => by
      have h := kept_call hkp h30
      simp [tagsKinds] at h
      have h' : o.kind = 40 ∨ o.kind = 41 ∨ o.kind = 42 := by omega
      rcases h' with h | h | h
      · exact engine_40 HPB HPW HPS o ho h
      · exact engine_41 HPB HPW HPS o ho h
      · exact engine_42 HPB HPW HPS o ho h)
    (fun b o ho hkp h30 => own_steps tagsKinds (by decide) b o ho hkp h30))
  have HB := hide hb
  clear hv hk hh h2 hok hl hb
  go_enter Tryz.func6, Tryz.ntmps6
  go_wp2_with fail
  refine HPL.out.mono ?_
  rintro e w' ⟨rfl, hb'⟩
  have HF := hide (HB.out.trans (hb'.mono HB.out.size))
  clear hb'
  go_wp2
  go_ret
  exact ⟨rfl, HF.out⟩

set_option maxRecDepth 100000 in
/-- FOR EVERY ARGUMENT, AND EVERY WORLD THAT HOLDS THE TABLES. -/
theorem tags_contract (HPB : PBeginOK) (HPW : PWriteOK) (HPS : PSumOK) (HPT : PTagOK) (H : Type) (enc : TypeId × Value → H) (W : World) (base : Nat) (args : Array Value) (ds gs : List (DataW H)) (before : List MemPlace)
    (hval : ∀ (j : Nat) t v, Tryz.f6.params[j]? = some t → args[j]? = some v → Value.okWide Tryz.prog W .any base t v)
    (hW : DataW.Whole enc Tryz.prog Tryz.f6.params.toList Rows.tagsSpec.vars false W args.toList ds gs before)
    (hz : ∀ n ∈ DataW.weightsEach Tryz.prog Tryz.f6.params.toList (ds ++ gs), n ≤ reachBytes) (hL : laidMetH Tryz.prog Rows.tagsRow.laid W) :
    Calls Tryz.prog 6 args W fun e W' => ∃ v, e = .returned v ∧ Rows.tagsSpec.post enc Tryz.prog Tryz.f6 false true false false W args v W' := by
  have hW' := hW
  obtain ⟨p, q, hA0, hV, rfl, hfz, hnd⟩ := hW
  have hA : DataW.TrodAll enc Tryz.prog W 0 (fun _ => true) true Tryz.f6.params.toList args.toList ds p := hA0
  rw [Tryz.params6] at hA hval hz
  obtain ⟨v0, d0, rfl, rfl, h0⟩ := trodAll_one hA
  obtain ⟨rfl, rfl⟩ := trodVars_none hV
  obtain ⟨a0, len, cap, rfl⟩ := okWide_slice Tryz.underlying22 (hval 0 22 v0 rfl rfl)
  clear hA0 hfz hnd
  simp only [List.append_nil] at hW'
  have hlt : ∀ x ∈ p, x.block < W.heap.size := fun x hx => by simpa using hW'.lt x hx
  obtain ⟨l, hS, hok, hl⟩ := open_script h0 (fun n hn => hz n (DataW.weights_mem_each (j := 0) rfl rfl n hn))
  obtain ⟨hh, hk⟩ := tabs2 hL
  have h2 : 2 ≤ W.heap.size := World.block_lt_of_cell? W _ (hk 0 (by decide))
  refine (tags_any HPB HPW HPS HPT _ l W hS hk hh h2 hok hl).mono fun e W' ⟨he, hb⟩ => ?_
  subst he
  refine ⟨_, rfl, _, _, _, [], p, [], hW', ?_, trodAll_mk1 (Below.trod laidOut (by kernel_rfl) (of_decide_eq_true (by kernel_rfl)) h0 hb hlt), rfl, hb.frame _, fun h => by cases h⟩
  exact trodAll_mk1 (shut_bool Tryz.underlying4 _)

theorem tags_laid_met (os : Os) : laidMet Tryz.prog Rows.tagsRow.laid ((laidWorld Tryz.prog os).forCall (fun _ _ => 0) ⟨#[], #[.slice none 0 0], []⟩).memory :=
  laidMet_of_run' 8 (by kernel_rfl) (by kernel_rfl)
theorem tags_reads (os : Os) {H : Type} (enc : TypeId × Value → H) : ∃ places, DataW.whole enc Tryz.prog ((laidWorld Tryz.prog os).forCall (fun _ _ => 0) ⟨#[], #[.slice none 0 0], []⟩).memory Tryz.f6.params.toList Rows.tagsSpec.vars false #[Value.slice none 0 0].toList 8 = some ([.nil], [], places) :=
  ⟨[], by kernel_rfl⟩

set_option maxRecDepth 100000 in
theorem tags_lifted (HPB : PBeginOK) (HPW : PWriteOK) (HPS : PSumOK) (HPT : PTagOK) (os : Os) (started : os.Started) (H : Type) (enc : TypeId × Value → H) (F : Stop.Interp) :
    ReturnsInHanded {} Tryz.checked os 6 .any ((OpenSpec.ofChange Rows.tagsSpec).preRow enc Tryz.prog Tryz.f6 Rows.tagsRow.domain false Rows.tagsRow.laid) (((OpenSpec.ofChange Rows.tagsSpec).at F).post enc Tryz.prog Tryz.f6 false true false false) := by
  obtain ⟨places, hx⟩ := tags_reads os enc
  refine returnsInHanded_of_row (C := Tryz.checked) (s := OpenSpec.ofChange Rows.tagsSpec) own started (by kernel_rfl) Tryz.func6
    (witness_row_at (enc := enc) (C := Tryz.checked) false (laidWorld Tryz.prog os) #[.slice none 0 0] rfl (by kernel_rfl) (by kernel_rfl) (by kernel_rfl)
      (OpenSpec.preRow_of_cond 8 hx (by kernel_rfl) (fun k hk => by cases hk) (by kernel_rfl) (tags_laid_met os))) ?_
  intro W base args ds gs before hval hW _ _ hz hL _ _
  have hz' : ∀ n ∈ DataW.weightsEach Tryz.prog Tryz.f6.params.toList (ds ++ gs), n ≤ reachBytes := by
    have hz2 : (DataW.weightsEach Tryz.prog Tryz.f6.params.toList (ds ++ gs)).all (· ≤ reachBytes) = true := hz
    intro n hn
    simpa using List.all_eq_true.1 hz2 n hn
  exact tags_contract HPB HPW HPS HPT H enc W base args ds gs before hval hW hz' hL

theorem tags_j1 : Tryz.prog.inPlace 6 = Rows.tagsRow.inPlace := by kernel_rfl
theorem tags_j2 : Tryz.prog.unfollowed 6 = Rows.tagsRow.unfollowed := by kernel_rfl
theorem tags_j3 : Tryz.prog.recurses 6 = Rows.tagsRow.recurses := by kernel_rfl
theorem tags_j4 : Tryz.prog.varsNamed 6 = Rows.tagsRow.named := by kernel_rfl
theorem tags_j : joinedFacts Tryz.prog 6 Tryz.f6 (OpenSpec.ofChange Rows.tagsSpec).bare Rows.tagsRow = true := by
  unfold joinedFacts
  rw [tags_j1, tags_j2, tags_j3, tags_j4]
  kernel_rfl
theorem tags_said (HPB : PBeginOK) (HPW : PWriteOK) (HPS : PSumOK) (HPT : PTagOK) : Rows.TagsSaid :=
  OpenClaim.holds_of_cond 6 Tryz.f6 rfl rfl rfl rfl rfl rfl rfl ⟨rfl, rfl, rfl, rfl, rfl⟩ rfl rfl rfl rfl rfl (by kernel_rfl) Tryz.func6 tags_j
    (of_decide_eq_true (by kernel_rfl)) (by unfold Func.isWrapper; first | (rw [if_pos (by decide +kernel)]; kernel_rfl) | (rw [if_neg (by decide +kernel)]; exact ⟨rfl, rfl⟩))
    (fun os started H enc _ F => by rw [OpenClaim.pre_eq_preRow]; exact tags_lifted HPB HPW HPS HPT os started H enc F)

theorem tags_plain (f : FuncId) (fn : Func) (hf : Tryz.pinned.checked.prog.funcNamed "strongbox/strongboxlaw.Tags" = some f) (hfn : Tryz.pinned.checked.prog.funcs[f]? = some fn) :
    false = Tryz.pinned.checked.prog.looks [] ∧ ∀ (j : Nat) t, fn.params[j]? = some t → Tryz.pinned.checked.prog.wantsStandIn t = false := by
  obtain rfl : f = 6 := Option.some.inj ((show Tryz.prog.funcNamed "strongbox/strongboxlaw.Tags" = some 6 by kernel_rfl).symm.trans hf) |>.symm
  obtain rfl : fn = Tryz.f6 := (Option.some.inj (Tryz.func6.symm.trans hfn)).symm
  refine ⟨by kernel_rfl, fun j t ht => ?_⟩
  rw [Tryz.params6] at ht
  obtain rfl : t = 22 := by simpa using Array.mem_of_getElem? ht
  exact (show Tryz.prog.wantsStandIn 22 = false by kernel_rfl)

theorem tags_card_of (HPB : PBeginOK) (HPW : PWriteOK) (HPS : PSumOK) (HPT : PTagOK) : Rows.TagsCardSaid :=
  Claim7.holds_tied_plain_at .later [] _ _ _ _ (tags_said HPB HPW HPS HPT) (fun _ h => by cases h) (by kernel_rfl) (fun _ h => by cases h) tags_row_tie rfl ⟨rfl, rfl⟩ (by kernel_rfl) rfl tags_plain (by kernel_rfl)
end Go.Proofs.YtpogfcfgbnccjaaGreatDoor
namespace Go.Proofs.YtpogfcfgbnccjaaGreatDoor
open Go.RowKit

theorem u32V_len (l : List Nat) : (u32V l).length = l.length := by simp [u32V]
theorem u32V_get (l : List Nat) (i : Nat) (h : i < l.length) : (u32V l)[i]? = some (.int .u32 ((l.getD i 0 : Nat) : Int)) := by
  simp [u32V, List.getD, h]
theorem u32V_put (l : List Nat) (i x : Nat) : (u32V l).set i (.int .u32 ((x : Nat) : Int)) = u32V (l.set i x) := by
  unfold u32V
  rw [List.map_set]
/-- A whole row is loaded out of its block. -/
theorem wpList_load_row {P : Program} {ops : Array Oper} {rest : List Oper} {op : Oper} {a : Act} {w : World} {Q : Exit → Act → World → Prop} (hgd : op.guard = none) (ty : TypeId) (x : Operand) (ho : op.op = .load ty x)
    (b : Nat) (hx : a.eval x = .pointer (some ⟨b, 0, none⟩)) (n : Nat) (e : TypeId) (hu : P.underlying ty = some (.array n e)) (hi : (P.info? ty).map (·.size) = some n) (cs : List Value) (t : TypeId) (hb : Blk w b t cs) (hl : cs.length = n)
    (h : wpList P ops Q rest (a.put op.dst (.agg cs.toArray)) w) : wpList P ops Q (op :: rest) a w :=
  wpList_load_mid hgd ty x ho b 0 hx cs (.array n e) hb.rangeAll hu rfl (by rw [hl]; exact hi) h
/-- A whole row is stored over its block. -/
theorem wpList_store_row {P : Program} {ops : Array Oper} {rest : List Oper} {op : Oper} {a : Act} {w : World} {Q : Exit → Act → World → Prop} (hgd : op.guard = none) (ty : TypeId) (x y : Operand) (ho : op.op = .store ty x y)
    (b : Nat) (hx : a.eval x = .pointer (some ⟨b, 0, none⟩)) (n : Nat) (hi : (P.info? ty).map (·.size) = some n) (cs : List Value) (hy : a.eval y = .agg cs.toArray) (hl : cs.length = n) (h1 : ∀ v ∈ cs, v.oneCell' = true) (old : List Value) (t : TypeId) (hb : Blk w b t old) (hol : old.length = n)
    (h : ∀ w', Blk w' b t cs → w.grownBy w' (some b) → wpList P ops Q rest (a.put op.dst undef) w') : wpList P ops Q (op :: rest) a w :=
  wpList_store_blk hgd ty x y ho b 0 cs.toArray hx hy (by rw [hi]; simp [hl]) (all_oneCell_toArray h1) t old hb (by simp [hl, hol])
    fun w' h1 h2 => h w' (by rw [laidOver_all _ _ (by simp [hl, hol])] at h1; exact h1) h2
/-- A row is handed back out of the result's block. -/
theorem ret_rowB {P : Program} {fn : Func} {R : Ending → World → Prop} {a : Act} {w : World} {p : Tmp} {ty : TypeId} (h : fn.results = #[.cell p ty]) (b : Nat) (hp : a.tmps.getD p undef = .pointer (some ⟨b, 0, none⟩))
    (n : Nat) (e : TypeId) (hu : P.underlying ty = some (.array n e)) (hi : (P.info? ty).map (·.size) = some n) (cs : List Value) (t : TypeId) (hb : Blk w b t cs) (hl : cs.length = n) (hdf : a.defers = [])
    (hR : R (.returned (.agg cs.toArray)) w) : bodyPost P fn R .ret a w :=
  ret_row h b 0 hp cs (.array n e) hb.rangeAll hu rfl (by rw [hl]; exact hi) hdf hR
/-- An empty list that is not nil. -/
theorem Row.zero {w : World} {base g : Nat} {e : TypeId} (hb : base ≤ g) (h : Blk w g e []) : Row w base e 1 (.slice (some ⟨g, 0, none⟩) 0 0) 0 [] :=
  ⟨rfl, .inr ⟨g, 0, [], rfl, hb, h.marked, Nat.le_refl _, by decide, rfl, rfl⟩⟩
/-- The walk stops at this operation. -/
theorem wpList_stop {P : Program} {ops : Array Oper} {rest : List Oper} {op : Oper} {a : Act} {w : World} {Q : Exit → Act → World → Prop} (x : Op) (_ : op.op = x) (h : Hid (wpList P ops Q (op :: rest) a w)) : wpList P ops Q (op :: rest) a w := h
/-- The walk stands at this operation. -/
theorem wpList_at {P : Program} {ops : Array Oper} {rest : List Oper} {op : Oper} {a : Act} {w : World} {Q : Exit → Act → World → Prop} (x : Op) (_ : op.op = x) (h : wpList P ops Q (op :: rest) a w) : wpList P ops Q (op :: rest) a w := h
theorem wpList_letterW {P : Program} {ops : Array Oper} {l : List Oper} {a : Act} {w : World} {Q : Exit → Act → World → Prop} (F : World → Prop) (hF : F w) (h : ∀ w', F w' → wpList P ops Q l a w') : Hid (wpList P ops Q l a w) := h w hF
end Go.Proofs.YtpogfcfgbnccjaaGreatDoor
namespace Go.Proofs.YtpogfcfgbnccjaaGreatDoor
open Go.RowKit

theorem zeros32_len (n : Nat) : (zeros32 n).length = n := by simp [zeros32]

end Go.Proofs.YtpogfcfgbnccjaaGreatDoor
namespace Go.Proofs.YtpogfcfgbnccjaaGreatDoor
open Go.RowKit

theorem info17 : (Tryz.prog.info? 163).map (·.size) = some 17 := by kernel_rfl
theorem LZ17 : (u32V (zeros32 17)).length = 17 := (u32V_len _).trans (zeros32_len 17)
theorem L17 {l : List Nat} (h : l.length = 17) : (u32V l).length = 17 := (u32V_len _).trans h
/-- What carry does to one digit. -/
theorem carry_nums (x v : Nat) (hx : x < 4278190080) (hv : v < 16777216) : ∃ s y z : Nat, ((x : Int) + (v : Int)) % 4294967296 = (s : Int) ∧ bits .and .u32 (s : Int) 255 = (y : Int) ∧ (s : Int) / 256 = (z : Int) ∧ z < 16777216 ∧ s < 4294967296 ∧ y = (x + v) % 256 ∧ z = (x + v) / 256 := by
  refine ⟨x + v, (x + v) % 256, (x + v) / 256, by omega, ?_, by omega, by omega, by omega, rfl, rfl⟩
  have h := u32_and_nat (x + v) 255 (by omega) (by decide)
  rw [Pol.and255] at h
  exact h

set_option maxRecDepth 100000 in
set_option maxHeartbeats 1600000 in
theorem carry_any (l : List Nat) (w : World) (hl : l.length = 17) (hd : ∀ i, l.getD i 0 < 4278190080) :
    Calls Tryz.prog 193 #[.agg (u32V l).toArray] w fun e w' => (∃ c, e = .returned (.agg (u32V c).toArray) ∧ Pol.Car c ∧ Dig.val c = Dig.val l) ∧ Below w.heap.size w w' := by
  go_enter Tryz.func193, Tryz.ntmps193
  go_wp2
  go_loopw [3, 4] (fun vo vi wr => ∃ (i v : Nat) (c : List Nat), i ≤ 16 ∧ vi = .int .i64 (i : Nat) ∧ vo = .int .u32 (v : Nat) ∧ v < 16777216 ∧ Pol.Carry l c i v ∧ Blk wr (w.heap.size) 163 (u32V c) ∧ Blk wr (w.heap.size + 1) 163 (u32V (zeros32 17)) ∧ Below w.heap.size w wr) (fun _ i _ => 16 - (intOf i).toNat)
  case atStart => exact ⟨0, 0, l, by omega, rfl, rfl, by decide, Pol.Carry.start l hl, (Blk.new rfl rfl).alloc _, Blk.new (by simp) rfl, ((Below.refl _ _).alloc (Nat.le_refl _) _).alloc (by simp) _⟩
  case round =>
    obtain ⟨i, v, c, hi, rfl, rfl, hv, hC, hB, hR, hbe⟩ := hrel
    have hcl := hC.1
    by_cases hlt : i < 16
    · have hci : c.getD i 0 < 4278190080 := by rw [hC.2.2.2 i (Nat.le_refl _)]; exact hd i
      have c0 := hB.cell (u32V_get c i (by omega))
      have f0 := hB.frozen i
      obtain ⟨s, y, z, e1, e2, e3, hz, hs, hy1, hz1⟩ := carry_nums (c.getD i 0) v hci hv
      have hst := hC.step hlt
      rw [← hy1, ← hz1] at hst
      have hB2 := hB.setCell_same i (.int .u32 (y : Nat))
      rw [u32V_put] at hB2
      generalize c.getD i 0 = x at *
      have HST := hide hst
      have HB2 := hide hB2
      have HR := hide (hR.setCell_other ⟨w.heap.size, i, none⟩ (.int .u32 (y : Nat)) (by first | (simp; done) | (simp; omega)))
      have HBE := hide (hbe.setCell (p := ⟨w.heap.size, i, none⟩) (Nat.le_refl _) (.int .u32 (y : Nat)))
      have ji : (i : Int) < 17 := by omega
      clear hst hB2 hy1 hz1 hC hcl hd hci hB hR hbe hl
      go_wp2
      go_roundw
      case rel => exact ⟨i + 1, z, _, by omega, by go_num, rfl, hz, HST.out, HB2.out, HR.out, HBE.out⟩
      case measure => simp [intOf]; omega
    · obtain rfl : i = 16 := by omega
      have hci : c.getD 16 0 < 4278190080 := by rw [hC.2.2.2 16 (Nat.le_refl _)]; exact hd 16
      have c0 := hB.cell (u32V_get c 16 (by omega))
      have f0 := hB.frozen 16
      obtain ⟨h1, h2⟩ := hC.done
      obtain ⟨s, hs⟩ : ∃ s : Nat, s = c.getD 16 0 + v := ⟨_, rfl⟩
      have e1 : ((c.getD 16 0 : Nat) : Int) + (v : Int) = (s : Int) := by omega
      have e2 : (s : Int) % 4294967296 = (s : Int) := by omega
      rw [← hs] at h1 h2
      have hB2 := hB.setCell_same 16 (.int .u32 (s : Nat))
      rw [u32V_put] at hB2
      generalize c.getD 16 0 = x at *
      generalize c.set 16 s = c2 at *
      have HB2 := hide hB2
      have HR := hide (hR.setCell_other ⟨w.heap.size, 16, none⟩ (.int .u32 (s : Nat)) (by first | (simp; done) | (simp; omega)))
      have HBE := hide (hbe.setCell (p := ⟨w.heap.size, 16, none⟩) (Nat.le_refl _) (.int .u32 (s : Nat)))
      have HL := hide (L17 h1.1)
      have H12 := hide (And.intro h1 h2)
      clear h1 h2 hC hcl hd hci hB hR hbe hl hB2 hs hlt hi hv
      go_wp2_with (with_reducible refine wpList_stop (.load 163 (.tmp 1)) rfl ?_)
      refine wpList_letterW (fun w' => Blk w' (w.heap.size) 163 (u32V c2) ∧ Blk w' (w.heap.size + 1) 163 (u32V (zeros32 17)) ∧ Below w.heap.size w w') ⟨HB2.out, HR.out, HBE.out⟩ ?_
      rintro w1 ⟨hB, hR, hbe⟩
      go_wp2_with (first | ((with_reducible refine wpList_at (.load 163 (.tmp 1)) rfl ?_); refine wpList_load_row rfl 163 (.tmp 1) rfl (w.heap.size) rfl 17 130 Tryz.underlying163 info17 (u32V c2) 163 hB HL.out ?_) | ((with_reducible refine wpList_at (.store 163 (.tmp 2) (.tmp 26)) rfl ?_); refine wpList_store_row rfl 163 (.tmp 2) (.tmp 26) rfl (w.heap.size + 1) rfl 17 info17 (u32V c2) rfl HL.out (u32V_one _) (u32V (zeros32 17)) 163 hR LZ17 ?_; intro w9 hB9 hG9))
      exact ret_rowB Tryz.results193 (w.heap.size + 1) rfl 17 130 Tryz.underlying163 info17 (u32V c2) 163 hB9 HL.out rfl ⟨⟨_, rfl, H12.out⟩, hbe.trans (RowKit.Below.of_grown hG9 (by omega) hbe.size)⟩

/-- The numbers of fold. -/
theorem fold_nums (x t : Nat) (hx : x < 256) (ht : t ≤ 2147483648) : ∃ y z p s : Nat, (t : Int) / 4 = (y : Int) ∧ bits .and .u32 (t : Int) 3 = (z : Int) ∧ (5 * (y : Int)) % 4294967296 = (p : Int) ∧ ((x : Int) + (p : Int)) % 4294967296 = (s : Int) ∧ y = t / 4 ∧ z = t % 4 ∧ s = x + 5 * (t / 4) := by
  refine ⟨t / 4, t % 4, 5 * (t / 4), x + 5 * (t / 4), by omega, ?_, by omega, by omega, rfl, rfl, rfl⟩
  have h := u32_and_nat t 3 (by omega) (by decide)
  rw [Pol.and3] at h
  exact h
theorem Pol.val_le (l : List Nat) (h : ∀ i, l.getD i 0 ≤ 1073741824) : ∀ i, Dig.val (l.take i) ≤ 1073741824 * 256 ^ i
  | 0 => by simp [Dig.val]
  | i + 1 => by
    have h1 := Pol.val_le l h i
    have h2 := Nat.mul_le_mul_left (256 ^ i) (h i)
    rw [Dig.val_take, Nat.pow_succ]
    generalize 256 ^ i = p at *
    omega
theorem Pol.top_le {l c : List Nat} (hl : l.length = 17) (h : ∀ i, l.getD i 0 ≤ 1073741824) (hc : Pol.Car c) (hv : Dig.val c = Dig.val l) : c.getD 16 0 ≤ 2147483648 := by
  rw [hc.top, hv, Pol.val_top hl]
  have h1 := Pol.val_le l h 16
  have h2 := Nat.mul_le_mul_left (256 ^ 16) (h 16)
  refine Nat.le_of_lt_succ ((Nat.div_lt_iff_lt_mul (by decide)).2 ?_)
  have h3 : 1073741824 * 256 ^ 16 + 256 ^ 16 * 1073741824 < 2147483649 * 256 ^ 16 := by decide
  omega
theorem Pol.foldL_at {c : List Nat} (h : Pol.Car c) (ht : c.getD 16 0 ≤ 2147483648) (i : Nat) : (Pol.foldL c).getD i 0 < 4278190080 := by
  have h0 := h.2 0 (by decide)
  have hl := h.1
  unfold Pol.foldL
  rw [getD_set _ _ _ _ (by rw [List.length_set]; omega)]
  split
  · omega
  · rw [getD_set _ _ _ _ (by omega)]
    split
    · omega
    · rcases Nat.lt_or_ge i 16 with h1 | h1
      · have := h.2 i h1; omega
      · rw [List.getD_eq_getElem?_getD, List.getElem?_eq_none (by omega)]; decide

set_option maxRecDepth 100000 in
set_option maxHeartbeats 1600000 in
theorem fold_any (l : List Nat) (w : World) (hl : l.length = 17) (hd : ∀ i, l.getD i 0 ≤ 1073741824) :
    Calls Tryz.prog 220 #[.agg (u32V l).toArray] w fun e w' => (∃ c, e = .returned (.agg (u32V c).toArray) ∧ Pol.Fold c ∧ Dig.val c % Pol.P = Dig.val l % Pol.P) ∧ Below w.heap.size w w' := by
  have C1 := hide (fun w => carry_any l w hl (fun i => Nat.lt_of_le_of_lt (hd i) (by decide)))
  have HL := hide (L17 hl)
  have TOP := hide (fun c => Pol.top_le (c := c) hl hd)
  clear hl hd
  go_enter Tryz.func220, Tryz.ntmps220
  go_wp2_with (with_reducible refine wpList_stop (.load 163 (.tmp 1)) rfl ?_)
  refine wpList_letterW (fun w' => Blk w' (w.heap.size) 163 (u32V l) ∧ Blk w' (w.heap.size + 1) 163 (u32V (zeros32 17)) ∧ Below w.heap.size w w' ∧ w.heap.size + 1 < w'.heap.size) ⟨(Blk.new rfl rfl).alloc _, Blk.new (by simp) rfl, ((Below.refl _ _).alloc (Nat.le_refl _) _).alloc (by simp) _, by simp⟩ ?_
  rintro w0 ⟨hB0, hZ0, hb0, hs0⟩
  go_wp2_with ((with_reducible refine wpList_at (.load 163 (.tmp 1)) rfl ?_); refine wpList_load_row rfl 163 (.tmp 1) rfl (w.heap.size) rfl 17 130 Tryz.underlying163 info17 (u32V l) 163 hB0 HL.out ?_)
  refine (C1.out _).mono ?_
  rintro e w1 ⟨⟨c, rfl, hC, hv⟩, hb1⟩
  have hB1 := hB0.below hb1 (by omega)
  have hZ1 := hZ0.below hb1 (by omega)
  have hbe1 := hb0.trans (hb1.mono hb0.size)
  have hs1 := hb1.size
  have htop := TOP.out c hC hv
  have HCL := hide (L17 hC.1)
  have G0 := u32V_get c 0 (by rw [hC.1]; decide)
  have G16 := u32V_get c 16 (by rw [hC.1]; decide)
  obtain ⟨y, z, p, s, n1, n2, n3, n4, n5, n6, n7⟩ := fold_nums (c.getD 0 0) (c.getD 16 0) (hC.2 0 (by decide)) htop
  have hfl : Pol.foldL c = (c.set 16 z).set 0 s := by rw [n6, n7]; rfl
  have C2 := hide (fun w => carry_any (Pol.foldL c) w ((Pol.foldL_len c).trans hC.1) (Pol.foldL_at hC htop))
  have V2 := hide (And.intro (Pol.foldL_lt hC (Nat.lt_of_le_of_lt htop (by decide))) ((Pol.foldL_mod hC.1).trans (by rw [hv])))
  have HFL := hide hfl
  have HF := hide (L17 ((Pol.foldL_len c).trans hC.1))
  generalize Pol.foldL c = fl at *
  generalize c.getD 0 0 = x at *
  generalize c.getD 16 0 = t at *
  clear hC hv htop hfl C1 TOP n5 n6 n7
  go_wp2_with (first | ((with_reducible refine wpList_at (.store 163 (.tmp 1) (.tmp 5)) rfl ?_); refine wpList_store_row rfl 163 (.tmp 1) (.tmp 5) rfl (w.heap.size) rfl 17 info17 (u32V c) rfl HCL.out (u32V_one _) (u32V l) 163 hB1 HL.out ?_; intro w2 hB2 hG2) | (with_reducible refine wpList_stop (.indexAddr 163 (.tmp 1) (.const (.int .i64 16))) rfl ?_))
  refine wpList_letterW (fun w' => Blk w' (w.heap.size) 163 (u32V c) ∧ Blk w' (w.heap.size + 1) 163 (u32V (zeros32 17)) ∧ Below w.heap.size w w' ∧ w.heap.size + 1 < w'.heap.size) ⟨hB2, hZ1.grown hG2 (by first | (simp; done) | (simp; omega)), hbe1.trans (RowKit.Below.of_grown hG2 (Nat.le_refl _) (by omega)), by have := hG2.size; omega⟩ ?_
  rintro w3 ⟨hB3, hZ3, hb3, hs3⟩
  clear hB0 hZ0 hb0 hs0 hB1 hZ1 hbe1 hs1 hb1 hB2 hG2
  have c16 := hB3.cell G16
  have c0 := hB3.cell G0
  have f := hB3.frozen
  have hB4 := hB3.setCell_same 16 (.int .u32 (z : Nat))
  rw [u32V_put] at hB4
  have hB5 := hB4.setCell_same 0 (.int .u32 (s : Nat))
  rw [u32V_put, ← HFL.out] at hB5
  have f4 := hB4.frozen
  have HB5 := hide hB5
  have HZ5 := hide ((hZ3.setCell_other ⟨w.heap.size, 16, none⟩ (.int .u32 (z : Nat)) (by first | (simp; done) | (simp; omega))).setCell_other ⟨w.heap.size, 0, none⟩ (.int .u32 (s : Nat)) (by first | (simp; done) | (simp; omega)))
  have HBE5 := hide ((hb3.setCell (p := ⟨w.heap.size, 16, none⟩) (Nat.le_refl _) (.int .u32 (z : Nat))).setCell (p := ⟨w.heap.size, 0, none⟩) (Nat.le_refl _) (.int .u32 (s : Nat)))
  clear hB5 hB4 hZ3 hb3
  go_wp2_with (with_reducible refine wpList_stop (.load 163 (.tmp 1)) rfl ?_)
  refine wpList_letterW (fun w' => Blk w' (w.heap.size) 163 (u32V fl) ∧ Blk w' (w.heap.size + 1) 163 (u32V (zeros32 17)) ∧ Below w.heap.size w w' ∧ w.heap.size + 1 < w'.heap.size) ⟨HB5.out, HZ5.out, HBE5.out, by simp [World.setCell]; omega⟩ ?_
  rintro w6 ⟨hB6, hZ6, hb6, hs6⟩
  clear HB5 HZ5 HBE5 c16 c0 f f4 hB3 hs3
  go_wp2_with ((with_reducible refine wpList_at (.load 163 (.tmp 1)) rfl ?_); refine wpList_load_row rfl 163 (.tmp 1) rfl (w.heap.size) rfl 17 130 Tryz.underlying163 info17 (u32V fl) 163 hB6 HF.out ?_)
  refine (C2.out _).mono ?_
  rintro e w7 ⟨⟨c2, rfl, hC2, hv2⟩, hb7⟩
  have hZ7 := hZ6.below hb7 (by omega)
  have hbe7 := hb6.trans (hb7.mono hb6.size)
  go_wp2_with ((with_reducible refine wpList_at (.store 163 (.tmp 2) (.tmp 20)) rfl ?_); refine wpList_store_row rfl 163 (.tmp 2) (.tmp 20) rfl (w.heap.size + 1) rfl 17 info17 (u32V c2) rfl (L17 hC2.1) (u32V_one _) (u32V (zeros32 17)) 163 hZ7 LZ17 ?_; intro w9 hB9 hG9)
  exact ret_rowB Tryz.results220 (w.heap.size + 1) rfl 17 130 Tryz.underlying163 info17 (u32V c2) 163 hB9 (L17 hC2.1) rfl ⟨⟨_, rfl, ⟨hC2, by rw [hv2]; exact V2.out.1⟩, by rw [hv2]; exact V2.out.2⟩, hbe7.trans (RowKit.Below.of_grown hG9 (by omega) hbe7.size)⟩

set_option maxRecDepth 100000 in
set_option maxHeartbeats 1600000 in
theorem leastOf_any (l : List Nat) (w : World) (h : Pol.Fold l) :
    Calls Tryz.prog 138 #[.agg (u32V l).toArray] w fun e w' => (∃ c, e = .returned (.agg (u32V c).toArray) ∧ Pol.Car c ∧ Dig.val c = Dig.val l % Pol.P) ∧ Below w.heap.size w w' := by
  have hl := h.1.1
  have h0 := h.at 0
  obtain ⟨s, hs⟩ : ∃ s : Nat, s = l.getD 0 0 + 5 := ⟨_, rfl⟩
  have n1 : (((l.getD 0 0 : Nat) : Int) + 5) % 4294967296 = (s : Int) := by omega
  have hml : (l.set 0 s).length = 17 := by simpa using hl
  have hmv : Dig.val (l.set 0 s) = Dig.val l + 5 := by
    have h1 := Dig.val_put l 0 s (by omega)
    rw [Nat.pow_zero, Nat.one_mul, Nat.one_mul, hs] at h1
    rw [hs]
    omega
  have hmd : ∀ i, (l.set 0 s).getD i 0 < 4278190080 := fun i => by
    rw [getD_set _ _ _ _ (by omega)]
    split
    · omega
    · have := h.at i; omega
  have C1 := hide (fun w => carry_any (l.set 0 s) w hml hmd)
  have HL := hide (L17 hl)
  have HM := hide (L17 hml)
  have G0 := u32V_get l 0 (by omega)
  have HV := hide hmv
  have HF := hide h
  clear hml hmv hmd hl h hs h0
  generalize l.getD 0 0 = x at *
  go_enter Tryz.func138, Tryz.ntmps138
  go_wp2_with (with_reducible refine wpList_stop (.load 163 (.tmp 1)) rfl ?_)
  refine wpList_letterW (fun w' => Blk w' (w.heap.size) 163 (u32V l) ∧ Blk w' (w.heap.size + 1) 163 (u32V (zeros32 17)) ∧ Below w.heap.size w w' ∧ w'.heap.size = w.heap.size + 1 + 1) ⟨(Blk.new rfl rfl).alloc _, Blk.new (by simp) rfl, ((Below.refl _ _).alloc (Nat.le_refl _) _).alloc (by simp) _, by simp⟩ ?_
  rintro w0 ⟨hB0, hZ0, hb0, hs0⟩
  go_wp2_with (first | ((with_reducible refine wpList_at (.load 163 (.tmp 1)) rfl ?_); refine wpList_load_row rfl 163 (.tmp 1) rfl (w.heap.size) rfl 17 130 Tryz.underlying163 info17 (u32V l) 163 hB0 HL.out ?_) | (with_reducible refine wpList_stop (.store 163 (.tmp 3) (.tmp 4)) rfl ?_))
  refine wpList_letterW (fun w' => Blk w' (w.heap.size) 163 (u32V l) ∧ Blk w' (w.heap.size + 1) 163 (u32V (zeros32 17)) ∧ Blk w' (w.heap.size + 1 + 1) 163 (u32V (zeros32 17)) ∧ Below w.heap.size w w' ∧ w.heap.size + 1 + 1 < w'.heap.size) ⟨hB0.alloc _, hZ0.alloc _, Blk.new hs0.symm rfl, hb0.alloc (by omega) _, by simp; omega⟩ ?_
  rintro w1 ⟨hB1, hZ1, hM1, hb1, hs1⟩
  clear hB0 hZ0 hb0 hs0
  go_wp2_with (first | ((with_reducible refine wpList_at (.store 163 (.tmp 3) (.tmp 4)) rfl ?_); refine wpList_store_row rfl 163 (.tmp 3) (.tmp 4) rfl (w.heap.size + 1 + 1) rfl 17 info17 (u32V l) rfl HL.out (u32V_one _) (u32V (zeros32 17)) 163 hM1 LZ17 ?_; intro w2 hM2 hG2) | (with_reducible refine wpList_stop (.indexAddr 163 (.tmp 3) (.const (.int .i64 0))) rfl ?_))
  refine wpList_letterW (fun w' => Blk w' (w.heap.size) 163 (u32V l) ∧ Blk w' (w.heap.size + 1) 163 (u32V (zeros32 17)) ∧ Blk w' (w.heap.size + 1 + 1) 163 (u32V l) ∧ Below w.heap.size w w' ∧ w.heap.size + 1 + 1 < w'.heap.size) ⟨hB1.grown hG2 (by first | (simp; done) | (simp; omega)), hZ1.grown hG2 (by first | (simp; done) | (simp; omega)), hM2, hb1.trans (RowKit.Below.of_grown hG2 (by omega) (by omega)), by have := hG2.size; omega⟩ ?_
  rintro w3 ⟨hB3, hZ3, hM3, hb3, hs3⟩
  clear hB1 hZ1 hM1 hb1 hs1 hM2 hG2
  have c0 := hM3.cell G0
  have f := hM3.frozen 0
  have hM4 := hM3.setCell_same 0 (.int .u32 (s : Nat))
  rw [u32V_put] at hM4
  have HM4 := hide hM4
  have HB4 := hide (hB3.setCell_other ⟨w.heap.size + 1 + 1, 0, none⟩ (.int .u32 (s : Nat)) (by first | (simp; done) | (simp; omega)))
  have HZ4 := hide (hZ3.setCell_other ⟨w.heap.size + 1 + 1, 0, none⟩ (.int .u32 (s : Nat)) (by first | (simp; done) | (simp; omega)))
  have HBE4 := hide (hb3.setCell (p := ⟨w.heap.size + 1 + 1, 0, none⟩) (by simp; omega) (.int .u32 (s : Nat)))
  generalize l.set 0 s = m at *
  clear hM4 hB3 hZ3 hb3 hM3
  go_wp2_with (with_reducible refine wpList_stop (.load 163 (.tmp 3)) rfl ?_)
  refine wpList_letterW (fun w' => Blk w' (w.heap.size) 163 (u32V l) ∧ Blk w' (w.heap.size + 1) 163 (u32V (zeros32 17)) ∧ Blk w' (w.heap.size + 1 + 1) 163 (u32V m) ∧ Below w.heap.size w w' ∧ w.heap.size + 1 + 1 < w'.heap.size) ⟨HB4.out, HZ4.out, HM4.out, HBE4.out, by simp [World.setCell]; omega⟩ ?_
  rintro w5 ⟨hB5, hZ5, hM5, hb5, hs5⟩
  clear HB4 HZ4 HM4 HBE4 c0 f hs3
  go_wp2_with ((with_reducible refine wpList_at (.load 163 (.tmp 3)) rfl ?_); refine wpList_load_row rfl 163 (.tmp 3) rfl (w.heap.size + 1 + 1) rfl 17 130 Tryz.underlying163 info17 (u32V m) 163 hM5 HM.out ?_)
  refine (C1.out _).mono ?_
  rintro e w6 ⟨⟨c, rfl, hC, hv⟩, hb6⟩
  have hB6 := hB5.below hb6 (by omega)
  have hZ6 := hZ5.below hb6 (by omega)
  have hM6 := hM5.below hb6 (by omega)
  have hbe6 := hb5.trans (hb6.mono hb5.size)
  have hs6 : w.heap.size + 1 + 1 < w6.heap.size := Nat.lt_of_lt_of_le hs5 hb6.size
  have LT := hide (fun h => Pol.least_lt hC (hv.trans HV.out) h)
  have GE := hide (fun h => Pol.least_ge HF.out hC (hv.trans HV.out) h)
  have hcl := hC.1
  have HC := hide hC
  have G16 := u32V_get c 16 (by omega)
  have HCL := hide (L17 hcl)
  have ht : c.getD 16 0 < 4294967296 := by
    rw [hC.top, hv]
    refine (Nat.div_lt_iff_lt_mul (by decide)).2 (Nat.lt_of_le_of_lt (Nat.le_of_eq HV.out) ?_)
    have := HF.out.2
    have h2 : 2 * Pol.P + 5 < 4294967296 * 256 ^ 16 := by unfold Pol.P; decide
    omega
  clear hB5 hZ5 hM5 hb5 hs5 hb6 hC hv C1 hcl
  generalize hst : c.getD 16 0 = t at *
  have HST := hide hst
  clear hst
  go_wp2_with (first | ((with_reducible refine wpList_at (.store 163 (.tmp 3) (.tmp 10)) rfl ?_); refine wpList_store_row rfl 163 (.tmp 3) (.tmp 10) rfl (w.heap.size + 1 + 1) rfl 17 info17 (u32V c) rfl HCL.out (u32V_one _) (u32V m) 163 hM6 HM.out ?_; intro w7 hM7 hG7) | (with_reducible refine wpList_stop (.indexAddr 163 (.tmp 3) (.const (.int .i64 16))) rfl ?_))
  refine wpList_letterW (fun w' => Blk w' (w.heap.size) 163 (u32V l) ∧ Blk w' (w.heap.size + 1) 163 (u32V (zeros32 17)) ∧ Blk w' (w.heap.size + 1 + 1) 163 (u32V c) ∧ Below w.heap.size w w' ∧ w.heap.size + 1 + 1 < w'.heap.size) ⟨hB6.grown hG7 (by first | (simp; done) | (simp; omega)), hZ6.grown hG7 (by first | (simp; done) | (simp; omega)), hM7, hbe6.trans (RowKit.Below.of_grown hG7 (by omega) (by omega)), by have := hG7.size; omega⟩ ?_
  rintro w8 ⟨hB8, hZ8, hM8, hb8, hs8⟩
  clear hB6 hZ6 hM6 hbe6 hs6 hM7 hG7
  have c16 := hM8.cell G16
  by_cases h4 : t < 4
  · have j4 : (t : Int) < 4 := by omega
    have hfin := LT.out h4
    have HFIN := hide (And.intro HF.out.1 hfin)
    clear hfin LT GE
    go_wp2_with (first | ((with_reducible refine wpList_at (.load 163 (.tmp 1)) rfl ?_); refine wpList_load_row rfl 163 (.tmp 1) rfl (w.heap.size) rfl 17 130 Tryz.underlying163 info17 (u32V l) 163 hB8 HL.out ?_) | ((with_reducible refine wpList_at (.store 163 (.tmp 2) (.tmp 14)) rfl ?_); refine wpList_store_row rfl 163 (.tmp 2) (.tmp 14) rfl (w.heap.size + 1) rfl 17 info17 (u32V l) rfl HL.out (u32V_one _) (u32V (zeros32 17)) 163 hZ8 LZ17 ?_; intro w9 hB9 hG9))
    exact ret_rowB Tryz.results138 (w.heap.size + 1) rfl 17 130 Tryz.underlying163 info17 (u32V l) 163 hB9 HL.out rfl ⟨⟨_, rfl, HFIN.out⟩, hb8.trans (RowKit.Below.of_grown hG9 (by omega) hb8.size)⟩
  · obtain ⟨q, hq⟩ : ∃ q : Nat, q = t - 4 := ⟨_, rfl⟩
    have j4 : ¬ (t : Int) < 4 := by omega
    have n2 : ((t : Int) - 4) % 4294967296 = (q : Int) := by omega
    have n3 : (t : Int) - 4 = (q : Int) := by omega
    have hfin := GE.out h4
    rw [← hq] at hfin
    have f := hM8.frozen 16
    have hM9 := hM8.setCell_same 16 (.int .u32 (q : Nat))
    rw [u32V_put] at hM9
    have HQL := hide (L17 hfin.1.1)
    have HFIN := hide hfin
    have HM9 := hide hM9
    have HZ9 := hide (hZ8.setCell_other ⟨w.heap.size + 1 + 1, 16, none⟩ (.int .u32 (q : Nat)) (by first | (simp; done) | (simp; omega)))
    have HBE9 := hide (hb8.setCell (p := ⟨w.heap.size + 1 + 1, 16, none⟩) (by simp; omega) (.int .u32 (q : Nat)))
    generalize c.set 16 q = c2 at *
    clear hfin LT GE hM9 hq h4 hZ8 hb8 hB8
    go_wp2_with (with_reducible refine wpList_stop (.load 163 (.tmp 3)) rfl ?_)
    refine wpList_letterW (fun w' => Blk w' (w.heap.size + 1) 163 (u32V (zeros32 17)) ∧ Blk w' (w.heap.size + 1 + 1) 163 (u32V c2) ∧ Below w.heap.size w w') ⟨HZ9.out, HM9.out, HBE9.out⟩ ?_
    rintro wA ⟨hZA, hMA, hbA⟩
    go_wp2_with (first | ((with_reducible refine wpList_at (.load 163 (.tmp 3)) rfl ?_); refine wpList_load_row rfl 163 (.tmp 3) rfl (w.heap.size + 1 + 1) rfl 17 130 Tryz.underlying163 info17 (u32V c2) 163 hMA HQL.out ?_) | ((with_reducible refine wpList_at (.store 163 (.tmp 2) (.tmp 19)) rfl ?_); refine wpList_store_row rfl 163 (.tmp 2) (.tmp 19) rfl (w.heap.size + 1) rfl 17 info17 (u32V c2) rfl HQL.out (u32V_one _) (u32V (zeros32 17)) 163 hZA LZ17 ?_; intro wB hBB hGB))
    exact ret_rowB Tryz.results138 (w.heap.size + 1) rfl 17 130 Tryz.underlying163 info17 (u32V c2) 163 hBB HQL.out rfl ⟨⟨_, rfl, HFIN.out⟩, hbA.trans (RowKit.Below.of_grown hGB (by omega) hbA.size)⟩
end Go.Proofs.YtpogfcfgbnccjaaGreatDoor
namespace Go.Proofs.YtpogfcfgbnccjaaGreatDoor
open Go.RowKit


theorem times_nums1 (X x y : Nat) (hX : X ≤ 700000000) (hx : x < 512) (hy : y < 256) : ∃ Y : Nat, Y = X + x * y ∧ ((X : Int) + (x : Int) * (y : Int)) % 4294967296 = (Y : Int) ∧ (X : Int) + (x : Int) * (y : Int) = (Y : Int) ∧ (Y : Int) % 4294967296 = (Y : Int) := by
  have h1 : x * y ≤ 130305 := Nat.le_trans (Nat.mul_le_mul (show x ≤ 511 by omega) (show y ≤ 255 by omega)) (by decide)
  have h2 : ((x : Int) * (y : Int)) = ((x * y : Nat) : Int) := (Int.natCast_mul x y).symm
  rw [h2]
  generalize x * y = q at *
  exact ⟨X + q, rfl, by omega, by omega, by omega⟩
theorem times_nums2 (X x y : Nat) (hX : X ≤ 700000000) (hx : x < 512) (hy : y < 256) : ∃ Y p : Nat, Y = X + 320 * (x * y) ∧ (320 * (x : Int)) % 4294967296 = (p : Int) ∧ ((X : Int) + (p : Int) * (y : Int)) % 4294967296 = (Y : Int) ∧ (X : Int) + (p : Int) * (y : Int) = (Y : Int) ∧ (Y : Int) % 4294967296 = (Y : Int) := by
  have h1 : x * y ≤ 130305 := Nat.le_trans (Nat.mul_le_mul (show x ≤ 511 by omega) (show y ≤ 255 by omega)) (by decide)
  have h2 : ((320 * x : Nat) : Int) * (y : Int) = ((320 * (x * y) : Nat) : Int) := by rw [← Int.natCast_mul, Nat.mul_assoc]
  refine ⟨X + 320 * (x * y), 320 * x, rfl, by omega, ?_, ?_, by omega⟩
  · rw [h2]; omega
  · rw [h2]; omega
theorem conv_zero (a b : List Nat) (i : Nat) : Pol.conv a b i + 320 * Pol.wrapc a b i 0 = sm (i + 1) (fun j => a.getD j 0 * b.getD (i - j) 0) := by
  rw [show Pol.wrapc a b i 0 = 0 from rfl, Nat.mul_zero, Nat.add_zero]
  rfl
theorem wrapc_succ (a b : List Nat) (i q : Nat) : Pol.wrapc a b i (q + 1) = Pol.wrapc a b i q + a.getD (i + 1 + q) 0 * b.getD (16 - q) 0 := rfl
theorem conv_bound {c k i q : Nat} (h1 : c ≤ (i + 1) * 130305) (h2 : k ≤ q * 130305) (hi : i < 17) (hq : q ≤ 16) : c + 320 * k ≤ 700000000 := by omega
theorem wrap_nums (i j q : Nat) (hi : i < 17) (hj : j < 17) (h : j = i + 1 + q) : ∃ k s : Nat, k = 16 - q ∧ k < 17 ∧ IntKind.i64.wrap (17 + (i : Int)) = (s : Int) ∧ wrap64 (17 + (i : Int)) = (s : Int) ∧ IntKind.i64.wrap ((s : Int) - (j : Int)) = (k : Int) ∧ wrap64 ((s : Int) - (j : Int)) = (k : Int) := by
  refine ⟨16 - q, 17 + i, rfl, by omega, ?_, ?_, ?_, ?_⟩
  · exact (IntWalk.i64_in _ (by omega)).trans (by omega)
  · exact (IntWalk.wrap64_in _ (by omega)).trans (by omega)
  · exact (IntWalk.i64_in _ (by omega)).trans (by omega)
  · exact (IntWalk.wrap64_in _ (by omega)).trans (by omega)
theorem set_again (o : List Nat) (i x y : Nat) : (o.set i x).set i y = o.set i y := by simp

set_option maxRecDepth 100000 in
set_option maxHeartbeats 4000000 in
theorem times_any (a b : List Nat) (w : World) (ha : a.length = 17) (hb : b.length = 17) (hda : ∀ i, a.getD i 0 < 512) (hdb : ∀ i, b.getD i 0 < 256) :
    Calls Tryz.prog 192 #[.agg (u32V a).toArray, .agg (u32V b).toArray] w fun e w' => (∃ c, e = .returned (.agg (u32V c).toArray) ∧ Pol.Fold c ∧ Dig.val c % Pol.P = Dig.val a * Dig.val b % Pol.P) ∧ Below w.heap.size w w' := by
  have DA := hide hda
  have DB := hide hdb
  have CL := hide (fun i => Pol.conv_le a b i hda hdb)
  have WL := hide (fun i => Pol.wrapc_le a b i hda hdb)
  have MV := hide (fun l => Pol.mulD_val a b l (by omega) (by omega))
  have AG := hide (fun j (hj : j < 17) => u32V_get a j (by omega))
  have BG := hide (fun j (hj : j < 17) => u32V_get b j (by omega))
  clear hda hdb ha hb
  go_enter Tryz.func192, Tryz.ntmps192
  go_wp2
  go_loopw [6] (fun vi wr => ∃ (i : Nat) (o : List Nat), i ≤ 17 ∧ vi = .int .i64 (i : Nat) ∧ o.length = 17 ∧ (∀ j, o.getD j 0 = if j < i then Pol.mulD a b j else 0) ∧ Blk wr (w.heap.size) 163 (u32V a) ∧ Blk wr (w.heap.size + 1) 163 (u32V b) ∧ Blk wr (w.heap.size + 1 + 1) 163 (u32V (zeros32 17)) ∧ Blk wr (w.heap.size + 1 + 1 + 1) 163 (u32V o) ∧ Below w.heap.size w wr) (fun i _ => 17 - (intOf i).toNat)
  case atStart =>
    refine ⟨0, zeros32 17, by omega, rfl, zeros32_len 17, (fun j => ?_), (((Blk.new rfl rfl).alloc _).alloc _).alloc _, ((Blk.new (by simp) rfl).alloc _).alloc _, (Blk.new (by simp) rfl).alloc _, Blk.new (by simp) rfl, ((((Below.refl _ _).alloc (Nat.le_refl _) _).alloc (by simp) _).alloc (by simp; omega) _).alloc (by simp; omega) _⟩
    rw [if_neg (by omega), List.getD_eq_getElem?_getD, zeros32, List.getElem?_replicate]
    split <;> rfl
  case round =>
    obtain ⟨i, o, hi, rfl, hol, hO, hA, hB, hR, hW, hbe⟩ := hrel
    by_cases hlt : i < 17
    · have ji : (i : Int) < 17 := by omega
      have hoi : o.set i 0 = o := list_getD (by simp) fun j hj => by
        rw [getD_set _ _ _ _ (by omega)]
        split
        · rename_i h; subst h; rw [hO, if_neg (by omega)]
        · rfl
      have HO := hide hO
      have HOL := hide hol
      have HOI := hide hoi
      have HW0 := hide (show Blk wr (w.heap.size + 1 + 1 + 1) 163 (u32V (o.set i (0))) by rw [hoi]; exact hW)
      have HA0 := hide hA
      have HB0 := hide hB
      have HR0 := hide hR
      have HBE0 := hide hbe
      clear hO hoi hW hA hB hR hbe
      go_wp2
      go_loopw [7] (fun vj wr => ∃ j : Nat, j ≤ i + 1 ∧ vj = .int .i64 (j : Nat) ∧ Blk wr (w.heap.size) 163 (u32V a) ∧ Blk wr (w.heap.size + 1) 163 (u32V b) ∧ Blk wr (w.heap.size + 1 + 1) 163 (u32V (zeros32 17)) ∧ Blk wr (w.heap.size + 1 + 1 + 1) 163 (u32V (o.set i (sm j (fun j => a.getD j 0 * b.getD (i - j) 0)))) ∧ Below w.heap.size w wr) (fun j _ => i + 1 - (intOf j).toNat)
      case atStart => exact ⟨0, by omega, rfl, HA0.out, HB0.out, HR0.out, HW0.out, HBE0.out⟩
      case round =>
        clear HW0 HA0 HB0 HR0 HBE0
        obtain ⟨j, hj, rfl, hA, hB, hR, hW, hbe⟩ := hrel
        by_cases hlj : j ≤ i
        · obtain ⟨k, hk⟩ : ∃ k : Nat, k = i - j := ⟨_, rfl⟩
          have q1 : IntKind.i64.wrap ((i : Int) - (j : Int)) = (k : Int) := (IntWalk.i64_in _ (by omega)).trans (by omega)
          have q2 : wrap64 ((i : Int) - (j : Int)) = (k : Int) := (IntWalk.wrap64_in _ (by omega)).trans (by omega)
          have c0 := hW.cell (u32V_get (o.set i (sm j (fun j => a.getD j 0 * b.getD (i - j) 0))) i (by rw [List.length_set]; omega))
          rw [getD_set _ _ _ _ (by omega), if_pos rfl] at c0
          have c1 := hA.cell (AG.out j (by omega))
          have c2 := hB.cell (BG.out k (by omega))
          have f0 := hW.frozen i
          obtain ⟨Y, hY, n1, n2, n3⟩ := times_nums1 (sm j (fun j => a.getD j 0 * b.getD (i - j) 0)) (a.getD j 0) (b.getD k 0) (Nat.le_trans (CL.out i j) (by omega)) (DA.out j) (DB.out k)
          have hY2 : Y = sm (j + 1) (fun j => a.getD j 0 * b.getD (i - j) 0) := by rw [hY, hk]; rfl
          have hW2 := hW.setCell_same i (.int .u32 (Y : Nat))
          rw [u32V_put, set_again, hY2] at hW2
          rw [← hY2] at hW2
          have HW2 := hide hW2
          have HY2 := hide hY2
          have HA := hide (hA.setCell_other ⟨w.heap.size + 1 + 1 + 1, i, none⟩ (.int .u32 (Y : Nat)) (by first | (simp; done) | (simp; omega)))
          have HB := hide (hB.setCell_other ⟨w.heap.size + 1 + 1 + 1, i, none⟩ (.int .u32 (Y : Nat)) (by first | (simp; done) | (simp; omega)))
          have HR := hide (hR.setCell_other ⟨w.heap.size + 1 + 1 + 1, i, none⟩ (.int .u32 (Y : Nat)) (by first | (simp; done) | (simp; omega)))
          have HBE := hide (hbe.setCell (p := ⟨w.heap.size + 1 + 1 + 1, i, none⟩) (by simp; omega) (.int .u32 (Y : Nat)))
          have jj : (j : Int) ≤ (i : Int) := by omega
          have j17 : (j : Int) < 17 := by omega
          have jk : (k : Int) < 17 := by omega
          generalize sm j (fun j => a.getD j 0 * b.getD (i - j) 0) = X at *
          generalize a.getD j 0 = x at *
          generalize b.getD k 0 = y at *
          clear hW2 hY hY2 hk hA hB hR hW hbe
          go_wp2
          go_region
          go_wp2
          go_roundw
          case rel => exact ⟨j + 1, by omega, by go_num, HA.out, HB.out, HR.out, by rw [← HY2.out]; exact HW2.out, HBE.out.drew⟩
          case measure => simp [intOf]; omega
        · obtain rfl : j = i + 1 := by omega
          have jj : ¬ ((i + 1 : Nat) : Int) ≤ (i : Int) := by omega
          have jj2 : ¬ (i : Int) + 1 ≤ (i : Int) := by omega
          have HW0 := hide (show Blk wr (w.heap.size + 1 + 1 + 1) 163 (u32V (o.set i (Pol.conv a b i + 320 * Pol.wrapc a b i 0))) by rw [conv_zero]; exact hW)
          have HA0 := hide hA
          have HB0 := hide hB
          have HR0 := hide hR
          have HBE0 := hide hbe
          clear hW hA hB hR hbe
          go_wp2
          go_loopw [8] (fun vj wr => ∃ q j : Nat, j = i + 1 + q ∧ q ≤ 16 - i ∧ vj = .int .i64 (j : Nat) ∧ Blk wr (w.heap.size) 163 (u32V a) ∧ Blk wr (w.heap.size + 1) 163 (u32V b) ∧ Blk wr (w.heap.size + 1 + 1) 163 (u32V (zeros32 17)) ∧ Blk wr (w.heap.size + 1 + 1 + 1) 163 (u32V (o.set i (Pol.conv a b i + 320 * Pol.wrapc a b i q))) ∧ Below w.heap.size w wr) (fun j _ => 17 - (intOf j).toNat)
          case atStart => exact ⟨0, i + 1, by omega, by omega, by go_num, HA0.out, HB0.out, HR0.out, HW0.out, HBE0.out⟩
          case round =>
            clear HW0 HA0 HB0 HR0 HBE0 jj jj2 hj hlj
            obtain ⟨q, j, hjq, hq, rfl, hA, hB, hR, hW, hbe⟩ := hrel
            by_cases hlj : j < 17
            · obtain ⟨k, s, hk, hk17, q0, q3, q1, q2⟩ := wrap_nums i j q hlt hlj hjq
              have c0 := hW.cell (u32V_get (o.set i (Pol.conv a b i + 320 * Pol.wrapc a b i q)) i (by rw [List.length_set]; omega))
              rw [getD_set _ _ _ _ (by omega), if_pos rfl] at c0
              have c1 := hA.cell (AG.out j hlj)
              have c2 := hB.cell (BG.out k hk17)
              have f0 := hW.frozen i
              have hbd : Pol.conv a b i + 320 * Pol.wrapc a b i q ≤ 700000000 := by
                exact conv_bound (CL.out i (i + 1)) (WL.out i q) hlt (Nat.le_trans hq (Nat.sub_le _ _))
              obtain ⟨Y, p0, hY, n0, n1, n2, n3⟩ := times_nums2 (Pol.conv a b i + 320 * Pol.wrapc a b i q) (a.getD j 0) (b.getD k 0) hbd (DA.out j) (DB.out k)
              have hY2 : Y = Pol.conv a b i + 320 * Pol.wrapc a b i (q + 1) := by
                rw [hY, hjq, hk, wrapc_succ, Nat.mul_add, Nat.add_assoc]
              have hW2 := hW.setCell_same i (.int .u32 (Y : Nat))
              rw [u32V_put, set_again] at hW2
              have HW2 := hide hW2
              have HY2 := hide hY2
              have HA := hide (hA.setCell_other ⟨w.heap.size + 1 + 1 + 1, i, none⟩ (.int .u32 (Y : Nat)) (by first | (simp; done) | (simp; omega)))
              have HB := hide (hB.setCell_other ⟨w.heap.size + 1 + 1 + 1, i, none⟩ (.int .u32 (Y : Nat)) (by first | (simp; done) | (simp; omega)))
              have HR := hide (hR.setCell_other ⟨w.heap.size + 1 + 1 + 1, i, none⟩ (.int .u32 (Y : Nat)) (by first | (simp; done) | (simp; omega)))
              have HBE := hide (hbe.setCell (p := ⟨w.heap.size + 1 + 1 + 1, i, none⟩) (by simp; omega) (.int .u32 (Y : Nat)))
              have j17 : (j : Int) < 17 := by omega
              have jk : (k : Int) < 17 := by omega
              have HJQ := hide hjq
              generalize Pol.conv a b i + 320 * Pol.wrapc a b i q = X at *
              generalize a.getD j 0 = x at *
              generalize b.getD k 0 = y at *
              clear hW2 hY hY2 hk hA hB hR hW hbe hbd hjq
              go_wp2
              go_region
              go_wp2
              go_roundw
              case rel => exact ⟨q + 1, j + 1, by have := HJQ.out; omega, by have := HJQ.out; omega, by go_num, HA.out, HB.out, HR.out, by rw [← HY2.out]; exact HW2.out, HBE.out.drew⟩
              case measure => simp [intOf]; omega
            · obtain rfl : q = 16 - i := by omega
              have hO2 : ∀ p, (o.set i (Pol.mulD a b i)).getD p 0 = if p < i + 1 then Pol.mulD a b p else 0 := fun p => by
                rw [getD_set _ _ _ _ (by have := HOL.out; omega), HO.out p]
                by_cases he : p = i
                · subst he; rw [if_pos rfl, if_pos (by omega)]
                · rw [if_neg he]
                  by_cases h1 : p < i
                  · rw [if_pos h1, if_pos (by omega)]
                  · rw [if_neg h1, if_neg (by omega)]
              have HO2 := hide hO2
              have HL2 := hide (show (o.set i (Pol.mulD a b i)).length = 17 by have := HOL.out; simpa using this)
              have HW2 := hide (show Blk wr (w.heap.size + 1 + 1 + 1) 163 (u32V (o.set i (Pol.mulD a b i))) from hW)
              generalize o.set i (Pol.mulD a b i) = o2 at *
              have HA := hide hA
              have HB := hide hB
              have HR := hide hR
              have HBE := hide hbe
              have j17 : ¬ (j : Int) < 17 := by omega
              clear hO2 hA hB hR hW hbe hjq hq
              go_wp2
              go_roundw
              case rel => exact ⟨i + 1, o2, by omega, by go_num, HL2.out, HO2.out, HA.out, HB.out, HR.out, HW2.out, HBE.out⟩
              case measure => simp [intOf]; omega
    · obtain rfl : i = 17 := by omega
      have hv := MV.out o hol (fun j hj => by rw [hO, if_pos hj])
      have hd : ∀ j, o.getD j 0 ≤ 1073741824 := fun j => by
        rw [hO]
        split
        · exact Nat.le_trans (conv_bound (CL.out j (j + 1)) (WL.out j (16 - j)) (by assumption) (by omega)) (by decide)
        · decide
      have C1 := hide (fun w => fold_any o w hol hd)
      rw [hv] at C1
      have HCL := hide (L17 hol)
      clear hO hv hd CL WL MV AG BG DA DB
      go_wp2_with ((with_reducible refine wpList_at (.load 163 (.tmp 5)) rfl ?_); refine wpList_load_row rfl 163 (.tmp 5) rfl (w.heap.size + 1 + 1 + 1) rfl 17 130 Tryz.underlying163 info17 (u32V o) 163 hW HCL.out ?_)
      refine (C1.out _).mono ?_
      rintro e w7 ⟨⟨c2, rfl, hC2, hv2⟩, hb7⟩
      have hZ7 := hR.below hb7 hR.lt
      have hbe7 := hbe.trans (hb7.mono hbe.size)
      go_wp2_with ((with_reducible refine wpList_at (.store 163 (.tmp 4) (.tmp 55)) rfl ?_); refine wpList_store_row rfl 163 (.tmp 4) (.tmp 55) rfl (w.heap.size + 1 + 1) rfl 17 info17 (u32V c2) rfl (L17 hC2.1.1) (u32V_one _) (u32V (zeros32 17)) 163 hZ7 LZ17 ?_; intro w9 hB9 hG9)
      exact ret_rowB Tryz.results192 (w.heap.size + 1 + 1) rfl 17 130 Tryz.underlying163 info17 (u32V c2) 163 hB9 (L17 hC2.1.1) rfl ⟨⟨_, rfl, hC2, hv2⟩, hbe7.trans (RowKit.Below.of_grown hG9 (by omega) hbe7.size)⟩
end Go.Proofs.YtpogfcfgbnccjaaGreatDoor
