import Derived.Test.YtocoggofjlipeaaGreatDoorJ2
namespace Go.Proofs.YtocoggofjlipeaaGreatDoor
open Go.RowKit

def opV (o : OpR) : Value := .agg #[.int .i64 o.kind, .int .i64 o.a, .int .i64 o.b, .int .i64 o.c, .string o.s, .string o.t]

set_option maxHeartbeats 1600000 in
theorem long_any {T : Tags} {base B M : Nat} {σ : Sig} {w : World} (h : Inv T base B M σ w) (o : OpR) (ho : o.ok) (ht : o.t.size ≤ M + 65536) :
    Calls Tryz.prog 23 #[.pointer (some ⟨B, 0, none⟩), opV o] w fun e w' => ∃ t : ByteArray, e = .returned (.string t) ∧ t.size ≤ M + 65536 ∧ Below w.heap.size w w' := by
  obtain ⟨ao, cap, hv, hcap⟩ := h.rwo.zero
  have hB := h.hw.1.lt
  have c10 := (h.hw.1.alloc (.cells #[.int .i64 o.kind, .int .i64 o.a, .int .i64 o.b, .int .i64 o.c, .string o.s, .string o.t] 28)).cell (i := 10) rfl
  have c10' := h.hw.1.cell (i := 10) rfl
  rw [hv] at c10 c10'
  have hoc := ho.c
  have hMb := h.bound.1
  have hwl := h.bound.2.2.2.2.2.1
  unfold opV
  unfold maxLen at hcap
  by_cases hc0 : o.c = 0
  · have z : (o.c != 0) = false := by rw [hc0]; rfl
    have H := hide h
    clear h hc0
    go_enter Tryz.func23, Tryz.ntmps23
    go_wp2
    go_ret
    exact ⟨_, rfl, ht, (Below.refl _ _).alloc (Nat.le_refl _) _⟩
  · have z : (o.c != 0) = true := by rw [bne_iff_ne]; exact hc0
    by_cases hw0 : σ.wo.length = 0
    · rw [hw0] at c10 c10'
      have H := hide h
      clear h hc0 hw0 hwl hv
      go_enter Tryz.func23, Tryz.ntmps23
      go_wp2
      go_ret
      exact ⟨_, rfl, ht, (Below.refl _ _).alloc (Nat.le_refl _) _⟩
    · obtain ⟨g, cap', e1, _, _, _, hgl, hcell⟩ := h.rwo.cells (by omega)
      rw [hv] at e1
      injection e1 with e1 _ _
      have hpk := pickN_lt o.c σ.wo.length (by omega)
      obtain ⟨x, hx⟩ : ∃ x, σ.wo[pickN o.c σ.wo.length]? = some x := ⟨_, List.getElem?_eq_getElem hpk⟩
      have hxs := h.sizes.1 x (List.mem_of_getElem? hx)
      have d1 := hcell (pickN o.c σ.wo.length) (.string x) (by simp [strV, hx])
      subst e1
      have hn0 : 0 < σ.wo.length := by omega
      generalize σ.wo.length = n at *
      have H := hide h
      clear h hc0 hw0 hv hcell hx
      generalize hpe : pickN o.c n = pk at *
      have HPE := hide hpe
      clear hpe
      have jn : (0 : Int) < (n : Int) := by omega
      go_enter Tryz.func23, Tryz.ntmps23
      go_wp2
      refine wp_letterW (fun w' => Below w.heap.size w w' ∧ w'.cell? ⟨B, 10, none⟩ = some (.slice (some ⟨g, 0, none⟩) n cap) ∧ w'.cell? ⟨w.heap.size, 3, none⟩ = some (.int .i64 o.c) ∧ w'.cell? ⟨g, pk, none⟩ = some (.string x)) ⟨(Below.refl _ _).alloc (Nat.le_refl _) _, c10, (World.cell?_alloc_at _ _ _ _ rfl).trans rfl, World.cell?_alloc_later w _ _ d1⟩ ?_
      clear c10 c10' d1
      rintro wq ⟨hbq, c10, c3, d1⟩
      have hpick := fun w => pick_any o.c n w hoc.1 hoc.2 hn0 (by omega)
      rw [HPE.out] at hpick
      have HP := hide hpick
      clear hpick
      go_quiet ((go_at_call 47; exact Calls.quiet_of_same (HP.out _)))
      go_wp2
      go_ret
      exact ⟨x, rfl, hxs, below_drewN hbq _⟩
end Go.Proofs.YtocoggofjlipeaaGreatDoor
