import Derived.Test.YtocoggofjlipeaaGreatDoorJ5
namespace Go.Proofs.YtocoggofjlipeaaGreatDoor
open Go.RowKit

set_option maxRecDepth 100000 in
set_option maxHeartbeats 1600000 in
theorem hashed_34 {T : Tags} {base B M M' : Nat} {σ : Sig} {w : World} (h : Inv T base B M σ w) (o : OpR) (hok : o.ok) (hk : o.kind = 34) (h0 : 0 < σ.ha.length) (hM : M < M') (hM2 : M' ≤ 1073741824) :
    Calls Tryz.prog 26 #[.pointer (some ⟨B, 0, none⟩), opV o] w fun e w' => e = .returned (.bool true) ∧ Done base B M' w w' := by
  have z : (o.kind == 30) = false := beq_eq_false_iff_ne.2 (by rw [hk]; decide)
  have z31 : (o.kind == 31) = false := beq_eq_false_iff_ne.2 (by rw [hk]; decide)
  have z32 : (o.kind == 32) = false := beq_eq_false_iff_ne.2 (by rw [hk]; decide)
  have z33 : (o.kind == 33) = false := beq_eq_false_iff_ne.2 (by rw [hk]; decide)
  have z34 : (o.kind == 34) = true := beq_iff_eq.2 hk
  have hb0 : Below w.heap.size w (w.alloc (.cells #[.int .i64 o.kind, .int .i64 o.a, .int .i64 o.b, .int .i64 o.c, .string o.s, .string o.t] 28)) := (Below.refl _ _).alloc (Nat.le_refl _) _
  have hA := h.below hb0
  obtain ⟨g, cap, hv, hcap, hcm, hTg, hgl, hfz, hcell⟩ := RowT.cells2 (f := haV) haV_len hA.rha h0
  have c6 := hA.hw.1.cell (i := 6) rfl
  rw [hv] at c6
  have hpk := pickN_lt o.a σ.ha.length h0
  obtain ⟨p, hp⟩ : ∃ p, σ.ha[pickN o.a σ.ha.length]? = some p := ⟨_, List.getElem?_eq_getElem hpk⟩
  have d0 := hcell _ p hp 0 _ rfl
  have d1 := hcell _ p hp 1 _ rfl
  have hoa := hok.a
  have hlen := hA.bound.2.2.2.2.1
  have hMb := hA.bound.1
  have hpick := fun w => pick_any o.a σ.ha.length w hoa.1 hoa.2 h0 (by omega)
  have hbB := hA.hw.1.lt
  have hts := fresh_new T w (9, 9) w.heap.size (Nat.le_refl _)
  have hbase := h.bsz
  unfold opV
  unfold maxLen at hcm
  have HA := hide hA
  have HB := hide hb0
  have HV := hide hv
  have HP := hide hp
  have HPK := hide hpick
  have HTS := hide hts
  have jn : (0 : Int) < (σ.ha.length : Int) := by omega
  clear hA hb0 h hk hv hp hTg hfz hcell hpick hts
  generalize hn : σ.ha.length = n at *
  generalize hpe : pickN o.a n = pk at *
  go_enter Tryz.func26, Tryz.ntmps26
  go_wp2
  refine wp_letterW (fun w' => Inv (fresh T w (9, 9)) base B M σ w' ∧ Below w.heap.size w w' ∧ w'.cell? ⟨B, 6, none⟩ = some (.slice (some ⟨g, 0, none⟩) n cap) ∧ w'.cell? ⟨w.heap.size, 0, none⟩ = some (.int .i64 o.kind) ∧ w'.cell? ⟨w.heap.size, 1, none⟩ = some (.int .i64 o.a) ∧ w'.cell? ⟨w.heap.size, 4, none⟩ = some (.string o.s) ∧ w'.cell? ⟨g, pk * 2, none⟩ = some (.pointer (some ⟨p.b, 0, none⟩)) ∧ w'.cell? ⟨g, pk * 2 + 1, none⟩ = some (.string ⟨p.l.toArray⟩) ∧ w.heap.size < w'.heap.size ∧ g < w'.heap.size ∧ B < w'.heap.size) ⟨HA.out, HB.out, c6, (World.cell?_alloc_at _ _ _ _ rfl).trans rfl, (World.cell?_alloc_at _ _ _ _ rfl).trans rfl, (World.cell?_alloc_at _ _ _ _ rfl).trans rfl, d0, d1, by simp, hgl, hbB⟩ ?_
  clear c6 d0 d1 HA HB hgl hbB
  rintro wq ⟨HI, HB, c6, e0, e1, e4, d0, d1, hsz, hgl, hbB⟩
  have key : ∀ (m : Nat) (w3 : World), Blk w3 wq.heap.size 71 (laidOver [.pointer none, .string ⟨#[]⟩] 0 [.pointer (some ⟨p.b, 0, none⟩), .string ⟨p.l.toArray⟩]) → ((wq.drewN m).alloc (.cells #[.pointer none, .string ⟨#[]⟩] 71)).grownBy w3 (some wq.heap.size) → HaAt (fresh (fresh T w (9, 9)) wq (9, 9)) base B M σ w o g n cap pk w.heap.size wq.heap.size p w3 := by
    intro m w3 hb hg
    have hb1 : Below wq.heap.size wq w3 := (World.grownBy.new (row := none) (World.grownBy.refl wq none |>.drewN m) hg).none
    refine ⟨HI.same (Nat.le_refl _) HI.bound.1 (Stays.of_below (9, 9) hb1), HB.trans (hb1.mono (by omega)), ?_, ?_, ?_, hb.cell rfl, hb.cell rfl, ?_, fresh_new _ _ _ _ (Nat.le_refl _), ?_, hb.lt⟩
    · rw [hb1.cell (show B < wq.heap.size by omega)]; exact c6
    · rw [hb1.cell (show w.heap.size < wq.heap.size by omega)]; exact e0
    · rw [hb1.cell (show w.heap.size < wq.heap.size by omega)]; exact e4
    · rw [fresh_old _ _ _ _ hsz]; exact HTS.out
    · have := hb1.size; omega
  have HKEY := hide key
  clear key HI HB
  go_quiet ((go_at_call 47; exact Calls.quiet_of_same (HPK.out _)))
  go_wp2_with (refine wpList_store_blk rfl 71 (.tmp 7) (.tmp 46) rfl wq.heap.size 0 #[.pointer (some ⟨p.b, 0, none⟩), .string ⟨p.l.toArray⟩] rfl rfl (info2 _ _) (one2 _ _) 71 [.pointer none, .string ⟨#[]⟩] (Blk.new rfl rfl) (Nat.le_refl 2) ?_; intro w3 hB3 hG3; obtain ⟨HI3, HB3, c63, e03, e43, p03, p13, tsb, tnb, lsb, lnb⟩ := HKEY.out _ w3 hB3 hG3; replace HI3 := hide HI3; replace HB3 := hide HB3; clear hB3 hG3 HKEY c6 e0 e1 e4 d0 d1 HTS; generalize (fresh (fresh T w (9, 9)) wq (9, 9)) = T3 at *; generalize wq.heap.size = nb at *; generalize hsbe : w.heap.size = sb at *)
  obtain ⟨hr1, hr2, hr3⟩ := HI3.out.ha pk p HP.out
  refine (copy_any p.b 135 [] [] p.l _ hr1).mono ?_
  rintro e w4 ⟨rfl, hr4, hb4⟩
  have c64 : w4.cell? ⟨B, 6, none⟩ = some (.slice (some ⟨g, 0, none⟩) n cap) := by rw [← c63]; exact hb4.cell HI3.out.hw.1.lt
  have p14 : w4.cell? ⟨nb, 1, none⟩ = some (.string ⟨p.l.toArray⟩) := by rw [← p13]; exact hb4.cell lnb
  have hI4 := HI3.out.same (Nat.le_refl _) HI3.out.bound.1 (Stays.of_below (30, n) hb4)
  have htg := fresh_new T3 w3 (30, n) _ (Nat.le_refl _)
  have HB4 := hide (HB3.out.trans (hb4.mono (by have := HB3.out.size; omega)))
  generalize fresh T3 w3 (30, n) = T4 at *
  generalize w3.heap.size = yb at *
  have key := fun (w1 : World) (o : Obj) (hg : (w4.drew.alloc o).grownBy w1 σ.vha.ownBlock) => (hI4.drew.hw.1.alloc o).grown hg (fun e => absurd (hI4.rha.2 B e.symm) (by rw [hI4.hw.2]; decide))
  have hrow := hI4.rha.1
  rw [HV.out] at hrow key
  rw [hn] at hrow
  have HK := hide key
  have HI4 := hide hI4
  have HR4 := hide hr4
  have HTG := hide htg
  have HROW := hide hrow
  clear key hI4 hr4 hr1 hr2 hb4 htg HI3 HB3 c63 e03 e43 p03 p13 tsb tnb lsb lnb HPK hrow
  have hpl : p.l.length ≤ M' := by omega
  have c6a : (w4.alloc (.cells #[.pointer (some ⟨yb, 0, none⟩), .string ⟨p.l.toArray⟩] 71)).cell? ⟨B, 6, none⟩ = some (.slice (some ⟨g, 0, none⟩) n cap) := World.cell?_alloc_later w4 _ _ c64
  clear hr3
  go_wp2
  go_region_law (refine step_append_two 71 37 _ 24 infoHa Tryz.underlying37 rfl (by decide) rfl (.tmp 103) (.tmp 108) rfl _ n _ rfl (HROW.out.drew.alloc _) w4.heap.size _ _ rfl ?_ ?_ new_two0 new_two1 ?_ ?_; rfl; rfl; omega; intro v1 w1 hr1 hg1 hat1; obtain ⟨g9, cap9, cur9, rfl, _⟩ := hr1.open (Nat.succ_pos _); have b1 := HK.out w1 _ hg1; have d6 := b1.cell (i := 6) rfl; have f1 := b1.frozen)
  all_goals
    go_wp2
    go_ret
    refine ⟨rfl, ?_⟩
    obtain ⟨T', h1, h2⟩ := HI4.out.drew.addHa hM hM2 ⟨yb, p.l⟩ HR4.out (by rw [HTG.out, hn]) hpl _ _ (by rw [HV.out]; exact hg1) (by rw [hn]; exact hr1) (by rw [HV.out]; exact hat1)
    exact ⟨T', _, h1, (HB4.out.mono hbase).trans ⟨h2.os, h2.tape, h2.output, h2.size, h2.block⟩⟩
end Go.Proofs.YtocoggofjlipeaaGreatDoor
