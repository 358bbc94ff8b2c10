import Derived.Test.YtfidnpchkfpoeaaGreatDoorR3
import Derived.Test.YtfidnpchkfpoeaaGreatDoorRH
import Derived.Test.YtfidnpchkfpoeaaGreatDoorRow
import Derived.Laws.IdiomStrings
import Derived.Laws.AppendOwnNone
namespace Go.Proofs.YtfidnpchkfpoeaaGreatDoor
open Go.RowKit

def u8L (l : List UInt8) : List Value := l.map fun x : UInt8 => Value.int .u8 ((x.toNat : Nat) : Int)
theorem u8L_append (l m : List UInt8) : u8L (l ++ m) = u8L l ++ u8L m := by simp [u8L]
theorem u8L_one (l : List UInt8) : ∀ v ∈ u8L l, v.oneCell' = true := by
  intro v hv
  obtain ⟨x, _, rfl⟩ := List.mem_map.1 hv
  rfl
theorem infoU8 : (Tryz.prog.info? 5).map (fun i => (i.zero, i.size, i.bytes)) = some (some (.int .u8 0), 1, 1) := by kernel_rfl

/-- append(s, x...) of bytes that lie somewhere. -/
theorem wpList_append_u8 {ops : Array Oper} {rest : List Oper} {o : Oper} {a : Act} {w : World} {Q : Exit → Act → World → Prop} (hgd : o.guard = none) (s x : Operand)
    (ho : o.op = .call { callee := .builtin .append, args := #[s, x], argTypes := #[62, 62] })
    (base : Nat) (v : Value) (n : Nat) (xs : List UInt8) (hs : a.eval s = v) (hown : Row w base 5 1 v n (u8L xs))
    (ad : Addr) (m c : Nat) (news : List UInt8) (hx : a.eval x = .slice (some ad) m c) (hl : news.length = m) (hnew : ∀ j u, (u8L news)[j]? = some u → w.cell? (ad.add j) = some u) (hn : n + m ≤ 1099511627776) (hbase : base ≤ w.heap.size)
    (h : ∀ v' w', Row w' base 5 1 v' (n + m) (u8L (xs ++ news)) → w.grownBy w' v.ownBlock → (v'.ownBlock = v.ownBlock ∨ ∃ g, v'.ownBlock = some g ∧ w.heap.size ≤ g) → wpList Tryz.prog ops Q rest (a.put o.dst v') w') : wpList Tryz.prog ops Q (o :: rest) a w := by
  obtain ⟨i0, hi, hz0, hz1, hz2⟩ := info_parts infoU8
  refine wpList_plain hgd fun _ hK => ?_
  refine wp_append_row s x 62 ho i0 (.int .u8 0) 1 Tryz.underlying62 hi hz0 hz1 hz2 rfl (by decide) v n (u8L xs) hs hown ad m c (u8L news) hx (by simp [u8L, hl]) hnew (u8L_one _) ?_ ?_ hbase ?_
  · unfold maxLen; omega
  · omega
  · intro v' w' h1 h2 h3
    exact hK _ _ (h v' w' (by rw [u8L_append]; exact h1) h2 h3)

theorem bytesRow_list (s : ByteArray) (cap : Nat) : (bytesRow s cap).toList = u8L s.data.toList ++ List.replicate (cap - s.size) (.int .u8 0) := by
  unfold bytesRow u8L
  simp
theorem row_bytes (s : ByteArray) (w : World) (cap : Nat) (hc : s.size ≤ cap) (hm : cap ≤ maxLen) :
    Row (w.drew.alloc (.cells (bytesRow s cap) 5 ((bytesRow s cap).size, (bytesRow s cap).size + 1))) w.heap.size 5 1 (.slice (some ⟨w.heap.size, 0, none⟩) s.size cap) s.size (u8L s.data.toList) := by
  have hsz : s.data.toList.length = s.size := by rw [Array.length_toList]; rfl
  have hl : (bytesRow s cap).toList.length = cap := by rw [bytesRow_list]; simp [u8L, hsz]; omega
  refine ⟨by simp [u8L, hsz], .inr ⟨w.heap.size, cap, (bytesRow s cap).toList, rfl, Nat.le_refl _, ⟨_, _, heap_alloc_new w.drew _, ?_⟩, hc, hm, by rw [hl]; omega, ?_⟩⟩
  · intro j hj
    have : j < (bytesRow s cap).size := by simpa using hj
    simp; omega
  · rw [bytesRow_list, Nat.mul_one, List.take_left' (by simp [u8L, hsz])]

def vlen : Value → Nat
  | .slice _ n _ => n
  | _ => 0

theorem gap_more (L j : Nat) (h : j < Sha.gap L) : (L + 1 + j) % 64 ≠ 56 := by unfold Sha.gap at h; omega
theorem gap_end (L : Nat) : (L + 1 + Sha.gap L) % 64 = 56 := by unfold Sha.gap; omega
theorem gap_lt (L : Nat) : Sha.gap L < 64 := by unfold Sha.gap; omega
theorem zeros_snoc (n : Nat) : Sha.zeros n ++ [0] = Sha.zeros (n + 1) := by
  unfold Sha.zeros; rw [List.replicate_succ']
theorem one_news {w : World} {g : Nat} {x : UInt8} {v : Int} (hv : v = (x.toNat : Nat)) (h : w.cell? ⟨g, 0, none⟩ = some (.int .u8 v)) : ∀ j u, (u8L [x])[j]? = some u → w.cell? ((⟨g, 0, none⟩ : Addr).add j) = some u := by
  intro j u hj
  match j, hj with
  | 0, hj => simp [u8L] at hj; subst hj; subst hv; rw [Addr.add_mid]; exact h
theorem row_news {w : World} {base : Nat} {v : Value} {l : List UInt8} {g cap n : Nat} (h : Row w base 5 1 v n (u8L l)) (hv : v = .slice (some ⟨g, 0, none⟩) n cap) : ∀ j u, (u8L l)[j]? = some u → w.cell? ((⟨g, 0, none⟩ : Addr).add j) = some u := by
  intro j u hj
  rcases h.2 with ⟨h0, _⟩ | ⟨g', cap', cur, h1, _, hB, _, _, _, htk⟩
  · rw [hv] at h0; cases h0
  · rw [hv] at h1
    injection h1 with e1 _ _
    injection e1 with e2
    injection e2 with e3
    subst e3
    rw [Addr.add_mid, Nat.zero_add]
    exact hB.cell (take_at htk hj)
def tailK (N k : Nat) : List UInt8 := (Sha.be64 N).drop (8 - k)
theorem tailK_succ (N k : Nat) (hk : k < 8) : UInt8.ofNat (N / 256 ^ k) :: tailK N k = tailK N (k + 1) :=
  match k, hk with
  | 0, _ => by simp [tailK, Sha.be64]
  | 1, _ => by simp [tailK, Sha.be64]
  | 2, _ => by simp [tailK, Sha.be64]
  | 3, _ => by simp [tailK, Sha.be64]
  | 4, _ => by simp [tailK, Sha.be64]
  | 5, _ => by simp [tailK, Sha.be64]
  | 6, _ => by simp [tailK, Sha.be64]
  | 7, _ => by simp [tailK, Sha.be64]
  | n + 8, h => absurd h (by omega)
theorem ofNat_mod (x : Nat) : (UInt8.ofNat x).toNat = x % 256 := by simp
theorem Row.str {w : World} {base : Nat} {l : List UInt8} {v : Value} {n : Nat} (h : Row w base 5 1 v n (u8L l)) (hn : 0 < n) : ∃ g cap, v = .slice (some ⟨g, 0, none⟩) n cap ∧ (convert 62 9 v).run Tryz.prog w = .ok (.string ⟨l.toArray⟩) w := by
  obtain ⟨g, cap, cur, rfl, _, hB, _, _, _, htk⟩ := h.open hn
  have hl : l.length = n := by have := h.1; simpa [u8L] using this
  refine ⟨g, cap, rfl, ?_⟩
  rw [← hl]
  refine run_convert_bytes_back w 62 9 5 ⟨g, 0, none⟩ cap l Tryz.underlying62 Tryz.underlying5 Tryz.underlying9 (fun j hj => ?_)
  rw [Addr.add_mid, Nat.zero_add]
  exact hB.cell (take_at htk (by simp [u8L, hj]))

theorem Row.vlen {w : World} {base : Nat} {e : TypeId} {size : Nat} {v : Value} {n : Nat} {xs : List Value} (h : Row w base e size v n xs) : Proofs.YtfidnpchkfpoeaaGreatDoor.vlen v = n := by
  rcases h.2 with ⟨rfl, rfl⟩ | ⟨g, cap, cur, rfl, _⟩ <;> rfl
theorem infoU8i : ∃ i, Tryz.prog.info? 5 = some i := by
  obtain ⟨i, h, _⟩ := info_parts infoU8
  exact ⟨i, h⟩
theorem fresh_own {w : World} {v : Value} : (w.alloc (.cells #[v] 5)).ownsRow w.heap.size 5 1 (.slice (some ⟨w.heap.size, 0, none⟩) 1 1) 1 [v] :=
  ⟨rfl, .inr ⟨w.heap.size, 1, #[v], rfl, Nat.le_refl _, heap_alloc_new w _, Nat.le_refl _, by decide, rfl, rfl⟩⟩

set_option maxRecDepth 100000 in
set_option maxHeartbeats 2000000 in
theorem padded_any (s : ByteArray) (w : World) (hs : s.size ≤ 1099511627) :
    Calls Tryz.prog 42 #[.string s] w fun e w' => e = .returned (.string ⟨(Sha.padded s.data.toList).toArray⟩) ∧ Below w.heap.size w w' := by
  have hcv := fun w : World => run_bytes_of_string (P := Tryz.prog) w 9 62 5 s Tryz.underlying9 Tryz.underlying62 Tryz.underlying5
  have hge := grownCap_ge w s.size 0 5
  have hle := grownCap_le_maxLen w s.size 0 5 (by unfold maxLen; omega)
  have hrow := row_bytes s w _ hge hle
  have hlen : s.data.toList.length = s.size := by rw [Array.length_toList]; rfl
  have HL := hide hlen
  clear hlen
  go_enter Tryz.func42, Tryz.ntmps42
  go_wp2_with (at_builtin; refine wpList_append_u8 rfl (.tmp 9) (.tmp 10) rfl w.heap.size _ s.size s.data.toList rfl (hrow.alloc _) ⟨w.heap.size + 1, 0, none⟩ 1 1 [128] rfl rfl ?_ ?_ ?_ ?_; exact one_news rfl (World.cell?_alloc_at _ _ _ _ (by simp)); omega; (simp; omega); intro v1 w1 hr1 hg1 hat1)
  have hbe1 : Below w.heap.size w w1 := Below.grown ((((Below.refl w.heap.size w).drew.alloc (Nat.le_refl _) _).alloc (by simp) _)) hg1 (by simp; omega) (fun k hk => by injection hk with hk; rw [← hk]; exact Nat.le_refl _)
  clear hg1 hat1 hrow hge hle hcv
  go_loopw [3] (fun v wr => ∃ j : Nat, j ≤ Sha.gap s.size ∧ Row wr w.heap.size 5 1 v (s.size + 1 + j) (u8L (s.data.toList ++ [128] ++ Sha.zeros j)) ∧ Below w.heap.size w wr) (fun v _ => s.size + 65 - vlen v)
  case atStart => exact ⟨0, Nat.zero_le _, by simpa [Sha.zeros] using hr1, hbe1⟩
  case round =>
    clear hr1 hbe1
    obtain ⟨j, hj, hr, hbe⟩ := hrel
    have hgl := gap_lt s.size
    have hsz := hbe.size
    by_cases hlt : j < Sha.gap s.size
    · have hne := gap_more s.size j hlt
      obtain ⟨g, cap, cur, rfl, hgb, _, hcap, hcapm, _⟩ := hr.open (by omega)
      unfold maxLen at hcapm
      have t1 : ((s.size + 1 + j : Nat) : Int).tmod 64 = (((s.size + 1 + j) % 64 : Nat) : Int) := by rw [Int.tmod_eq_emod_of_nonneg (by omega)]; omega
      have t2 : ((((s.size + 1 + j) % 64 : Nat) : Int) != 56) = true := by rw [bne_iff_ne]; omega
      generalize hX : s.size + 1 + j = X at *
      generalize hY : X % 64 = Y at *
      have hXb : X ≤ 1099511700 := by omega
      have HX := hide hX
      clear hX hY hne
      go_wp2_with (at_builtin; refine wpList_append_u8 rfl (.tmp 16) (.tmp 17) rfl w.heap.size _ X _ rfl (hr.alloc _) ⟨wr.heap.size, 0, none⟩ 1 1 [0] rfl rfl ?_ ?_ ?_ ?_; exact one_news rfl (World.cell?_alloc_at _ _ _ _ rfl); omega; (simp; omega); intro v1 w1 hr1 hg1 hat1)
      go_roundw
      case rel =>
        refine ⟨j + 1, by omega, ?_, Below.grown (hbe.alloc hsz _) hg1 (by simp; omega) (fun k hk => (hr.lt k hk).1)⟩
        rw [← HX.out, List.append_assoc, zeros_snoc] at hr1
        exact hr1
      case measure => rw [Row.vlen hr1]; have := HX.out; simp [vlen]; omega
    · have hjg : j = Sha.gap s.size := by omega
      rw [hjg] at hr
      have hne := gap_end s.size
      obtain ⟨g, cap, cur, rfl, hgb, hBg, hcap, hcapm, _⟩ := hr.open (by omega)
      have hgl2 := hBg.lt
      unfold maxLen at hcapm
      have t1 : ((s.size + 1 + Sha.gap s.size : Nat) : Int).tmod 64 = (((s.size + 1 + Sha.gap s.size) % 64 : Nat) : Int) := by rw [Int.tmod_eq_emod_of_nonneg (by omega)]; omega
      have t2 : ((((s.size + 1 + Sha.gap s.size) % 64 : Nat) : Int) != 56) = false := by rw [hne]; rfl
      obtain ⟨pl, hpl⟩ : ∃ pl, pl = s.data.toList ++ [128] ++ Sha.zeros (Sha.gap s.size) := ⟨_, rfl⟩
      rw [← hpl] at hr
      have HP := hide hpl
      clear hpl hjg hne
      generalize hX : s.size + 1 + Sha.gap s.size = X at *
      generalize hY : X % 64 = Y at *
      have hXb : X ≤ 1099511700 := by omega
      have HX := hide hX
      clear hX hY
      go_wp2
      clear t1 t2
      go_loopw [4, 5, 6] (fun n v i w' => ∃ k M : Nat, k ≤ 8 ∧ i = .int .i64 k ∧ n = .int .i64 (M : Nat) ∧ M = 8 * s.size / 256 ^ k ∧ Row w' w.heap.size 5 1 v k (u8L (tailK (8 * s.size) k)) ∧ (k = 0 → v = .slice none 0 0) ∧ Row w' w.heap.size 5 1 (.slice (some ⟨g, 0, none⟩) X cap) X (u8L pl) ∧ g < w'.heap.size ∧ Below w.heap.size w w') (fun _ _ i _ => 8 - (intOf i).toNat)
      case atStart => exact ⟨0, 8 * s.size, by omega, rfl, by go_num, by simp, Row.nil _ _ _ _, fun _ => rfl, hr, hgl2, hbe⟩
      case round =>
        clear hr hbe hBg hgl2 hsz
        obtain ⟨k, M, hk, rfl, rfl, hM, hrt, hnil, hr, hgl2, hbe⟩ := hrel
        have hsz := hbe.size
        have hMb : M ≤ 8 * s.size := by rw [hM]; exact Nat.div_le_self _ _
        by_cases hlt : k < 8
        · have hM1 : M / 256 = 8 * s.size / 256 ^ (k + 1) := by rw [hM, Nat.pow_succ, Nat.div_div_eq_div_mul]
          have htl := tailK_succ (8 * s.size) k hlt
          rw [← hM] at htl
          obtain ⟨R, hR⟩ : ∃ R, R = M % 256 := ⟨_, rfl⟩
          have hRl : R < 256 := by omega
          have hRx : (R : Int) = ((UInt8.ofNat M).toNat : Nat) := by rw [ofNat_mod, hR]
          have t1 : (M : Int).tmod 256 = (R : Int) := by rw [Int.tmod_eq_emod_of_nonneg (by omega)]; omega
          have t0 : (M : Int) % 256 = (R : Int) := by omega
          have HM1 := hide hM1
          have HTL := hide htl
          have HRX := hide hRx
          clear hM1 htl hRx hR hM
          by_cases hk0 : k = 0
          · obtain rfl := hnil hk0
            subst hk0
            go_wp2_with (at_builtin; refine wpList_append_own_none rfl (.tmp 29) (.tmp 30) 62 rfl wr.heap.size 5 _ 1 Tryz.underlying62 infoU8i.choose_spec _ 1 [.int .u8 (R : Int)] rfl ?_ rfl ?_; exact fresh_own)
            go_roundw
            case rel =>
              refine ⟨1, M / 256, by omega, rfl, by go_num, HM1.out, ?_, fun h => by omega, hr.alloc _, by simp; omega, hbe.alloc hsz _⟩
              have hf := (fresh_own (w := wr) (v := .int .u8 (R : Int))).row.mono hsz
              rw [← HTL.out]
              have e : u8L (UInt8.ofNat M :: tailK (8 * s.size) 0) = [.int .u8 (R : Int)] := by rw [HRX.out]; rfl
              rw [e]
              exact hf
            case measure => simp [intOf]
          · obtain ⟨g2, cap2, cur2, rfl, hgb2, hB2, hcap2, _, _⟩ := hrt.open (by omega)
            have hnews := row_news (hrt.alloc (.cells #[.int .u8 (R : Int)] 5)) rfl
            have HNW := hide hnews
            clear hnews hnil
            have hf : Row (wr.alloc (.cells #[.int .u8 (R : Int)] 5)) wr.heap.size 5 1 (.slice (some ⟨wr.heap.size, 0, none⟩) 1 1) 1 (u8L [UInt8.ofNat M]) := by
              have h0 := (fresh_own (w := wr) (v := .int .u8 (R : Int))).row
              have e : u8L [UInt8.ofNat M] = [.int .u8 (R : Int)] := by rw [HRX.out]; rfl
              rw [e]; exact h0
            have HF := hide hf
            have htll : (tailK (8 * s.size) k).length = k := by have := hrt.1; simpa [u8L] using this
            have HTLL := hide htll
            clear hf htll
            go_wp2_with (at_builtin; refine wpList_append_u8 rfl (.tmp 29) (.tmp 30) rfl wr.heap.size _ 1 _ rfl HF.out ⟨g2, 0, none⟩ k cap2 (tailK (8 * s.size) k) rfl HTLL.out HNW.out ?_ ?_ ?_; omega; simp; intro v3 w3 hr3 hg3 hat3)
            go_roundw
            case rel =>
              have hg3' : wr.grownBy w3 none := ⟨hg3.os, hg3.tape, hg3.output, by have := hg3.size; simp at this; omega, fun b hb _ => by
                rw [hg3.block b (by simp; omega) (fun e => Nat.ne_of_lt hb (Option.some.inj e)), Below.heap_alloc wr _ b hb]⟩
              refine ⟨k + 1, M / 256, by omega, by go_num, by go_num, HM1.out, ?_, fun h => by omega, hr.kept hg3' (by simp [Value.ownBlock]), Nat.lt_of_lt_of_le hgl2 hg3'.size, hbe.trans (hg3'.none.mono hsz)⟩
              rw [← HTL.out, Nat.add_comm k 1]
              exact hr3.mono hsz
            case measure => simp [intOf]; omega
        · have h8 : k = 8 := by omega
          subst h8
          obtain ⟨g2, cap2, cur2, rfl, hgb2, hB2, hcap2, _, _⟩ := hrt.open (by omega)
          have hnews := row_news hrt rfl
          have HNW := hide hnews
          clear hnews hnil
          go_wp2_with (at_builtin; refine wpList_append_u8 rfl (.tmp 34) (.tmp 35) rfl w.heap.size _ X _ rfl hr ⟨g2, 0, none⟩ 8 cap2 (tailK (8 * s.size) 8) rfl rfl HNW.out ?_ hsz ?_; omega; intro v3 w3 hr3 hg3 hat3; obtain ⟨g4, cap4, rfl, hcv⟩ := Row.str hr3 (by omega))
          go_ret
          refine ⟨?_, Below.grown hbe hg3 hsz (fun k hk => (hr.lt k hk).1)⟩
          rw [HP.out]
          rfl
end Go.Proofs.YtfidnpchkfpoeaaGreatDoor
