import Derived.Lib.LazyBuf
import Derived.Test.YtpogfcfgbnccjaaDoorPi1
namespace Go.Proofs.YtpogfcfgbnccjaaDoor
open Go.RowKit

def z64 : List UInt8 := List.replicate 64 0
set_option maxRecDepth 100000 in
set_option maxHeartbeats 800000 in
theorem begin_any (w : World) (hH : HTab w) :
    Calls Tryd.prog 19 #[] w fun e w' => e = .returned (.pointer (some ⟨w.heap.size, 0, none⟩)) ∧ HRep w' w.heap.size 59 [] [] [] ∧ Below w.heap.size w w' := by
  have c0 : w.cell? ⟨0, 0, none⟩ = some (.int .u32 (Sha.H0.a : Nat)) := hH 0 (by omega)
  have c1 : w.cell? ⟨0, 1, none⟩ = some (.int .u32 (Sha.H0.b : Nat)) := hH 1 (by omega)
  have c2 : w.cell? ⟨0, 2, none⟩ = some (.int .u32 (Sha.H0.c : Nat)) := hH 2 (by omega)
  have c3 : w.cell? ⟨0, 3, none⟩ = some (.int .u32 (Sha.H0.d : Nat)) := hH 3 (by omega)
  have c4 : w.cell? ⟨0, 4, none⟩ = some (.int .u32 (Sha.H0.e : Nat)) := hH 4 (by omega)
  have c5 : w.cell? ⟨0, 5, none⟩ = some (.int .u32 (Sha.H0.f : Nat)) := hH 5 (by omega)
  have c6 : w.cell? ⟨0, 6, none⟩ = some (.int .u32 (Sha.H0.g : Nat)) := hH 6 (by omega)
  have c7 : w.cell? ⟨0, 7, none⟩ = some (.int .u32 (Sha.H0.h : Nat)) := hH 7 (by omega)
  go_enter Tryd.func19, Tryd.ntmps19
  go_wp2
  go_ret
  refine ⟨rfl, ⟨z64, rfl, rfl, ?_⟩, (Below.refl _ _).alloc (Nat.le_refl _) _⟩
  exact Blk.new rfl rfl

theorem infoHash : (Tryd.prog.info? 59).map (·.size) = some 73 := by kernel_rfl
theorem hcells_one (s : Sha.St) (blk : List UInt8) (n : Nat) : ∀ v ∈ hcells s blk n, v.oneCell' = true := by
  intro v hv
  unfold hcells at hv
  rcases List.mem_append.1 hv with h | h
  · rcases List.mem_append.1 h with h | h
    · exact u32V_one _ v h
    · obtain ⟨x, _, rfl⟩ := List.mem_map.1 h
      rfl
  · rw [List.mem_singleton.1 h]; rfl
theorem hcells_range {w : World} {b : Nat} {t : TypeId} {pre post : List Value} {s : Sha.St} {blk : List UInt8} {n : Nat} (hl : blk.length = 64) (h : Blk w b t (pre ++ hcells s blk n ++ post)) : w.rangeAt b pre.length (hcells s blk n) := by
  have := h.range pre.length 73
  rw [List.append_assoc, List.drop_left, List.take_left' (hcells_len _ _ _ hl)] at this
  exact this
def zst : Sha.St := ⟨0, 0, 0, 0, 0, 0, 0, 0⟩

set_option maxRecDepth 100000 in
set_option maxHeartbeats 800000 in
theorem copy_any (b : Nat) (t : TypeId) (pre post : List Value) (l : List UInt8) (w : World) (hb : HRep w b t pre post l) :
    Calls Tryd.prog 21 #[.pointer (some ⟨b, pre.length, none⟩)] w fun e w' => e = .returned (.pointer (some ⟨w.heap.size, 0, none⟩)) ∧ HRep w' w.heap.size 59 [] [] l ∧ Below w.heap.size w w' := by
  obtain ⟨blk, hl, ht, hB⟩ := hb
  have hr := hcells_range hl hB
  have hsz : (Tryd.prog.info? 59).map (·.size) = some (hcells (Sha.comps l (l.length / 64)) blk l.length).length := by rw [infoHash, hcells_len _ _ _ hl]
  have hfin : ∀ w', Blk w' w.heap.size 59 (hcells (Sha.comps l (l.length / 64)) blk l.length) → HRep w' w.heap.size 59 [] [] l := fun w' h => ⟨blk, hl, ht, by simpa using h⟩
  have hcl := hcells_len (Sha.comps l (l.length / 64)) blk l.length hl
  have h1 := hcells_one (Sha.comps l (l.length / 64)) blk l.length
  generalize hcells (Sha.comps l (l.length / 64)) blk l.length = cs at *
  generalize pre.length = po at *
  have hle : 0 + cs.toArray.size ≤ (hcells zst z64 0).length := by rw [hcells_len zst z64 0 rfl]; simp [hcl]
  have hsz2 : (Tryd.prog.info? 59).map (·.size) = some cs.toArray.size := by rw [hsz]; simp
  have hla : laidOver (hcells zst z64 0) 0 cs.toArray.toList = cs := by
    have := laidOver_all (hcells zst z64 0) cs (by rw [hcl, hcells_len zst z64 0 rfl])
    simpa using this
  have HR := hide hr
  have HS := hide hsz
  have HS2 := hide hsz2
  have HLE := hide hle
  have HF := hide hfin
  have H1 := hide h1
  have HLA := hide hla
  clear hr hsz hsz2 hle hfin h1 hla hcl hB ht hl
  go_enter Tryd.func21, Tryd.ntmps21
  go_wp2_with (first | (refine wpList_load_mid rfl 59 (.tmp 5) rfl b po rfl cs _ HR.out Tryd.underlying59 rfl HS.out ?_) | (refine wpList_store_blk rfl 59 (.tmp 3) (.tmp 6) rfl w.heap.size 0 cs.toArray rfl rfl HS2.out (all_oneCell_toArray H1.out) 59 (hcells zst z64 0) ?_ HLE.out ?_; exact Blk.new rfl rfl; intro w3 hB3 hG3))
  go_ret
  rw [HLA.out] at hB3
  exact ⟨rfl, HF.out _ hB3, ((World.grownBy.refl w none).new hG3).none⟩

set_option maxRecDepth 100000 in
set_option maxHeartbeats 800000 in
theorem reset_any (b : Nat) (t : TypeId) (pre post : List Value) (l : List UInt8) (w : World) (hb : HRep w b t pre post l) (hH : HTab w) :
    Calls Tryd.prog 23 #[.pointer (some ⟨b, pre.length, none⟩)] w fun e w' => e = .returned (.tuple #[]) ∧ HRep w' b t pre post [] ∧ w.grownBy w' (some b) := by
  have c0 : w.cell? ⟨0, 0, none⟩ = some (.int .u32 (Sha.H0.a : Nat)) := hH 0 (by omega)
  have c1 : w.cell? ⟨0, 1, none⟩ = some (.int .u32 (Sha.H0.b : Nat)) := hH 1 (by omega)
  have c2 : w.cell? ⟨0, 2, none⟩ = some (.int .u32 (Sha.H0.c : Nat)) := hH 2 (by omega)
  have c3 : w.cell? ⟨0, 3, none⟩ = some (.int .u32 (Sha.H0.d : Nat)) := hH 3 (by omega)
  have c4 : w.cell? ⟨0, 4, none⟩ = some (.int .u32 (Sha.H0.e : Nat)) := hH 4 (by omega)
  have c5 : w.cell? ⟨0, 5, none⟩ = some (.int .u32 (Sha.H0.f : Nat)) := hH 5 (by omega)
  have c6 : w.cell? ⟨0, 6, none⟩ = some (.int .u32 (Sha.H0.g : Nat)) := hH 6 (by omega)
  have c7 : w.cell? ⟨0, 7, none⟩ = some (.int .u32 (Sha.H0.h : Nat)) := hH 7 (by omega)
  obtain ⟨blk, hl, ht, hB⟩ := hb
  have hfin : laidOver (pre ++ hcells (Sha.comps l (l.length / 64)) blk l.length ++ post) pre.length (hcells Sha.H0 z64 0) = pre ++ hcells Sha.H0 z64 0 ++ post := by
    unfold laidOver
    rw [List.append_assoc pre, List.take_left, hcells_len _ z64 _ rfl, ← List.append_assoc pre (hcells _ blk _) post, List.drop_left' (by rw [List.length_append, hcells_len _ _ _ hl])]
  have hlen : (pre ++ hcells (Sha.comps l (l.length / 64)) blk l.length ++ post).length = pre.length + 73 + post.length := by rw [List.length_append, List.length_append, hcells_len _ _ _ hl]
  generalize pre ++ hcells (Sha.comps l (l.length / 64)) blk l.length ++ post = old at *
  generalize hpo : pre.length = po at *
  have HF := hide hfin
  have HL := hide hlen
  clear hfin hlen hpo ht hl
  go_enter Tryd.func23, Tryd.ntmps23
  go_wp2_with (refine wpList_store_blk rfl 59 (.tmp 5) (.tmp 4) rfl b po (hcells Sha.H0 z64 0).toArray rfl rfl ?_ (all_oneCell_toArray (hcells_one _ _ _)) t old hB ?_ ?_; (rw [infoHash]; rfl); (rw [HL.out]; show po + 73 ≤ _; omega); intro w3 hB3 hG3)
  go_end0
  refine ⟨rfl, ⟨z64, rfl, rfl, ?_⟩, hG3⟩
  rw [HF.out] at hB3
  exact hB3
end Go.Proofs.YtpogfcfgbnccjaaDoor
namespace Go.Proofs.YtpogfcfgbnccjaaDoor
open Go.RowKit

theorem st_at (s : Sha.St) (j : Nat) (hj : j < 8) : (u32V s.list)[j]? = some (.int .u32 (Sha.wAt s.list j : Nat)) := u32V_in s.list j hj
theorem four_news {w : World} {x : Nat} {n : Nat} {a b c d : Int} (h1 : a = ((UInt8.ofNat (x / 2 ^ 24)).toNat : Nat)) (h2 : b = ((UInt8.ofNat (x / 2 ^ 16)).toNat : Nat)) (h3 : c = ((UInt8.ofNat (x / 2 ^ 8)).toNat : Nat)) (h4 : d = ((UInt8.ofNat x).toNat : Nat)) (hn : n = w.heap.size) :
    ∀ j u, (u8L (Sha.be4 x))[j]? = some u → (w.alloc (.cells #[.int .u8 a, .int .u8 b, .int .u8 c, .int .u8 d] 5)).cell? ((⟨n, 0, none⟩ : Addr).add j) = some u := by
  subst h1 h2 h3 h4 hn
  intro j u hj
  rw [Addr.add_mid, Nat.zero_add, World.cell?_alloc_at _ _ _ _ rfl]
  match j, hj with
  | 0, hj => exact hj
  | 1, hj => exact hj
  | 2, hj => exact hj
  | 3, hj => exact hj
  | n + 4, hj => simp [u8L, Sha.be4] at hj

set_option maxRecDepth 100000 in
set_option maxHeartbeats 1600000 in
theorem wordBytes_any (s : Sha.St) (w : World) (hs : s.ok) :
    Calls Tryd.prog 42 #[.agg (st8 s)] w fun e w' => e = .returned (.string ⟨(Sha.out s).toArray⟩) ∧ Below w.heap.size w w' := by
  unfold st8
  go_enter Tryd.func42, Tryd.ntmps42
  go_wp2
  go_loopw [3, 4] (fun v i wr => ∃ j : Nat, j ≤ 8 ∧ i = .int .i64 j ∧ Row wr (w.heap.size + 1) 5 1 v (4 * j) (u8L ((Sha.out s).take (4 * j))) ∧ Blk wr w.heap.size 56 (u32V s.list) ∧ w.heap.size + 1 ≤ wr.heap.size ∧ Below w.heap.size w wr) (fun _ i _ => 8 - (intOf i).toNat)
  case atStart =>
    refine ⟨0, by omega, rfl, ⟨rfl, .inr ⟨w.heap.size + 1, 0, [], rfl, Nat.le_refl _, (Blk.new (by simp) rfl).marked, by omega, by decide, rfl, rfl⟩⟩, (Blk.new rfl rfl).alloc _, by simp, ((Below.refl _ _).alloc (Nat.le_refl _) _).alloc (by simp) _⟩
  case round =>
    obtain ⟨j, hj, rfl, hr, hBs, hsz, hbe⟩ := hrel
    by_cases hlt : j < 8
    · have c0 := hBs.cell (st_at s j hlt)
      have hxl := ok_at s hs j hlt
      have hot := out_take s j hlt
      generalize Sha.wAt s.list j = x at *
      have HOT := hide hot
      clear hot
      have jc : (j : Int) < 8 := by omega
      go_wp2_with (at_builtin; go_loud (refine wpList_append_u8 rfl (.tmp 14) (.tmp 26) rfl (w.heap.size + 1) _ (4 * j) _ rfl (hr.alloc _) _ 4 4 (Sha.be4 x) rfl rfl (four_news ?_ ?_ ?_ ?_ rfl) ?_ ?_ ?_; (rw [ofNat_mod]; omega); (rw [ofNat_mod]; omega); (rw [ofNat_mod]; omega); (rw [ofNat_mod]; omega); omega; exact new_sz hsz; intro v1 w1 hr1 hg hat))
      go_roundw
      case rel =>
        have hs1 := hg.size
        simp only [World.size_alloc] at hs1
        refine ⟨j + 1, by omega, by go_num, ?_, (hBs.alloc _).grown hg (fun e => by have := (hr.lt _ e.symm).1; omega), by omega, Below.grown (hbe.alloc (by omega) _) hg (by simp; omega) (fun k hk => by have := (hr.lt k hk).1; omega)⟩
        rw [HOT.out] at hr1
        exact hr1
      case measure => simp [intOf]; omega
    · have h8 : j = 8 := by omega
      subst h8
      obtain ⟨g4, cap4, rfl, hcv⟩ := Row.str hr (by omega)
      go_wp2
      go_ret
      exact ⟨rfl, hbe⟩

set_option maxRecDepth 100000 in
set_option maxHeartbeats 1600000 in
theorem hsum_any (b : Nat) (t : TypeId) (pre post : List Value) (l : List UInt8) (w : World) (hn : l.length < 2 ^ 59) (hb : HRep w b t pre post l) (hk : KTab w) (h2 : 2 ≤ w.heap.size) :
    Calls Tryd.prog 22 #[.pointer (some ⟨b, pre.length, none⟩)] w fun e w' => e = .returned (.string ⟨(Sha.sum l).toArray⟩) ∧ Below w.heap.size w w' := by
  generalize hpo : pre.length = po at *
  go_enter Tryd.func22, Tryd.ntmps22
  go_wp2_with fail
  rw [← hpo]
  refine (copy_any b t pre post l _ hb).mono ?_
  rintro e w1 ⟨rfl, hr1, hb1⟩
  have hk1 := hk.below hb1 h2
  rw [hpo]
  clear hpo
  go_wp2_with fail
  refine (pad_any w.heap.size 59 [] [] l _ hn hr1 hk1 h2).mono ?_
  rintro e w2 ⟨rfl, hr2, hg2⟩
  have hb2 : Below w.heap.size w w2 := hb1.trans (RowKit.Below.of_grown hg2 (Nat.le_refl _) (Nat.le_of_lt hr1.lt))
  obtain ⟨blk, hl, ht, hB⟩ := hr2
  have hrr := hB.range 0 8
  have hrw := hcells_at_words (Sha.comps (Sha.padded l) ((Sha.padded l).length / 64)) blk (Sha.padded l).length [] []
  rw [show ([] : List Value).length = 0 from rfl] at hrw
  rw [hrw] at hrr
  have hsum : Sha.sum l = Sha.out (Sha.comps (Sha.padded l) ((Sha.padded l).length / 64)) := rfl
  have hok := Sha.comps_ok (Sha.padded l) ((Sha.padded l).length / 64)
  have hlt := hB.lt
  generalize Sha.comps (Sha.padded l) ((Sha.padded l).length / 64) = st at *
  have HR := hide hrr
  have HS := hide hsum
  clear hrr hrw hsum ht hB hl hr1 hg2
  go_wp2_with (first | (go_at_call 42; refine (wordBytes_any st _ hok).mono ?_; rintro e w3 ⟨rfl, hb3⟩) | (refine wpList_load_mid rfl 56 (.tmp 10) rfl w.heap.size 0 rfl (u32V st.list) (.array 8 47) HR.out Tryd.underlying56 rfl (by kernel_rfl) ?_))
  go_ret
  exact ⟨by rw [HS.out]; rfl, hb2.trans (hb3.mono (Nat.le_of_lt hlt))⟩

set_option maxHeartbeats 800000 in
theorem shaSum_any (s : ByteArray) (w : World) (hn : s.size < 2 ^ 59) (hk : KTab w) (hH : HTab w) (h2 : 2 ≤ w.heap.size) :
    Calls Tryd.prog 9 #[.string s] w fun e w' => e = .returned (.string ⟨(Sha.sum s.data.toList).toArray⟩) ∧ Below w.heap.size w w' := by
  go_enter Tryd.func9, Tryd.ntmps9
  go_wp2_with fail
  refine (begin_any _ hH).mono ?_
  rintro e w1 ⟨rfl, hr1, hb1⟩
  have hk1 := hk.below hb1 h2
  have hl1 := hr1.lt
  go_wp2_with fail
  refine (hwrite_any w.heap.size 59 [] [] [] s _ (by simp; omega) hr1 hk1 h2).mono ?_
  rintro e w2 ⟨rfl, hr2, hg2⟩
  have hb2 : Below w.heap.size w w2 := hb1.trans (RowKit.Below.of_grown hg2 (Nat.le_refl _) (Nat.le_of_lt hr1.lt))
  have hk2 := hk.below hb2 h2
  have hl2 := hr2.lt
  rw [List.nil_append] at hr2
  go_wp2_with fail
  refine (hsum_any w.heap.size 59 [] [] s.data.toList _ (by rw [Array.length_toList]; exact hn) hr2 hk2 (by omega)).mono ?_
  rintro e w3 ⟨rfl, hb3⟩
  go_wp2
  go_ret
  exact ⟨rfl, hb2.trans (hb3.mono (Nat.le_of_lt hl2))⟩
end Go.Proofs.YtpogfcfgbnccjaaDoor
namespace Go.Proofs.YtpogfcfgbnccjaaDoor
open Go.RowKit

/-- Whose a block is: (0, 0) is nobody's of the law's. -/
abbrev Tags := Nat → Nat × Nat

/-- From w to w': no block has changed its owner; only blocks of owners in S have changed; (0, 0) is not in S by the users' care. -/
structure Stays (T T' : Tags) (w w' : World) (S : Nat × Nat → Prop) : Prop where
  os : w'.os = w.os
  tape : w'.tape = w.tape
  output : w'.output = w.output
  size : w.heap.size ≤ w'.heap.size
  tag : ∀ g, g < w.heap.size → T' g = T g
  block : ∀ g, g < w.heap.size → ¬ S (T g) → w'.heap[g]? = w.heap[g]?
theorem Stays.trans {T T' T'' : Tags} {w w' w'' : World} {S : Nat × Nat → Prop} (h : Stays T T' w w' S) (k : Stays T' T'' w' w'' S) : Stays T T'' w w'' S :=
  ⟨k.os.trans h.os, k.tape.trans h.tape, k.output.trans h.output, Nat.le_trans h.size k.size,
   fun g hg => (k.tag g (Nat.lt_of_lt_of_le hg h.size)).trans (h.tag g hg),
   fun g hg hs => (k.block g (Nat.lt_of_lt_of_le hg h.size) (by rw [h.tag g hg]; exact hs)).trans (h.block g hg hs)⟩
/-- New blocks get the owner c. -/
def fresh (T : Tags) (w : World) (c : Nat × Nat) : Tags := fun g => if g < w.heap.size then T g else c
theorem fresh_old (T : Tags) (w : World) (c : Nat × Nat) (g : Nat) (h : g < w.heap.size) : fresh T w c g = T g := if_pos h
theorem fresh_new (T : Tags) (w : World) (c : Nat × Nat) (g : Nat) (h : w.heap.size ≤ g) : fresh T w c g = c := if_neg (by omega)
theorem Stays.of_below {T : Tags} {w w' : World} {S : Nat × Nat → Prop} (c : Nat × Nat) (h : Below w.heap.size w w') : Stays T (fresh T w c) w w' S :=
  ⟨h.os, h.tape, h.output, h.size, fun g hg => fresh_old T w c g hg, fun g hg _ => h.block g hg⟩
theorem Stays.of_grown {T : Tags} {w w' : World} {S : Nat × Nat → Prop} (c : Nat × Nat) (b : Nat) (h : w.grownBy w' (some b)) (hb : S (T b)) : Stays T (fresh T w c) w w' S :=
  ⟨h.os, h.tape, h.output, h.size, fun g hg => fresh_old T w c g hg, fun g hg hs => h.block g hg (fun e => hs (by rw [Option.some.inj e]; exact hb))⟩
theorem Stays.below {T T' : Tags} {w w' : World} {S : Nat × Nat → Prop} {B : Nat} (h : Stays T T' w w' S) (hB : B ≤ w.heap.size) (h0 : ∀ g, g < B → T g = (0, 0)) (hs : ¬ S (0, 0)) : Below B w w' :=
  ⟨h.os, h.tape, h.output, h.size, fun g hg => h.block g (by omega) (by rw [h0 g hg]; exact hs)⟩

/-- Block b is c's and holds cs. -/
def At (T : Tags) (w : World) (c : Nat × Nat) (b : Nat) (t : TypeId) (cs : List Value) : Prop := Blk w b t cs ∧ T b = c
end Go.Proofs.YtpogfcfgbnccjaaDoor
namespace Go.Proofs.YtpogfcfgbnccjaaDoor
open Go.RowKit

/-- The sum of f 0 .. f (n - 1). -/
def sm : Nat → (Nat → Nat) → Nat
  | 0, _ => 0
  | n + 1, f => sm n f + f n
theorem sm_congr {n : Nat} {f g : Nat → Nat} (h : ∀ i, i < n → f i = g i) : sm n f = sm n g := by
  induction n with
  | zero => rfl
  | succ n ih => rw [sm, sm, ih (fun i hi => h i (by omega)), h n (by omega)]
theorem sm_add (n : Nat) (f g : Nat → Nat) : sm n (fun i => f i + g i) = sm n f + sm n g := by
  induction n with
  | zero => rfl
  | succ n ih => rw [sm, sm, sm, ih]; omega
theorem sm_mul (n c : Nat) (f : Nat → Nat) : sm n (fun i => c * f i) = c * sm n f := by
  induction n with
  | zero => rfl
  | succ n ih => rw [sm, sm, ih, Nat.mul_add]
theorem sm_zero (n : Nat) : sm n (fun _ => 0) = 0 := by
  induction n with
  | zero => rfl
  | succ n ih => rw [sm, ih]
theorem sm_swap (n m : Nat) (f : Nat → Nat → Nat) : sm n (fun i => sm m (fun j => f i j)) = sm m (fun j => sm n (fun i => f i j)) := by
  induction n with
  | zero => exact (sm_zero m).symm
  | succ n ih => rw [sm, ih, ← sm_add]; rfl
theorem sm_split (p q : Nat) (f : Nat → Nat) : sm (p + q) f = sm p f + sm q (fun i => f (p + i)) := by
  induction q with
  | zero => rfl
  | succ q ih => rw [← Nat.add_assoc, sm, sm, ih]; omega
theorem sm_le {n : Nat} {f : Nat → Nat} {c : Nat} (h : ∀ i, i < n → f i ≤ c) : sm n f ≤ n * c := by
  induction n with
  | zero => simp [sm]
  | succ n ih =>
    have := ih (fun i hi => h i (by omega))
    have h2 := h n (by omega)
    rw [sm, Nat.add_mul, Nat.one_mul]
    omega
theorem Dig.val_sm (l : List Nat) (n : Nat) (h : l.length ≤ n) : Dig.val l = sm n (fun i => 256 ^ i * l.getD i 0) := by
  rw [← Dig.val_all l n h]
  clear h
  induction n with
  | zero => rfl
  | succ n ih => rw [Dig.val_take, ih, sm]

namespace Pol
/-- Digit i of the product, as far as it is not beyond the highest. -/
def conv (a b : List Nat) (i : Nat) : Nat := sm (i + 1) (fun j => a.getD j 0 * b.getD (i - j) 0)
/-- What is beyond it and comes in again at digit i. -/
def wrapc (a b : List Nat) (i m : Nat) : Nat := sm m (fun q => a.getD (i + 1 + q) 0 * b.getD (16 - q) 0)
def mulD (a b : List Nat) (i : Nat) : Nat := conv a b i + 320 * wrapc a b i (16 - i)
theorem row_sum (b : List Nat) (x j : Nat) (hj : j < 17) :
    sm 17 (fun i => if j ≤ i then 256 ^ i * (x * b.getD (i - j) 0) else 256 ^ (17 + i) * (x * b.getD (17 + i - j) 0)) = 256 ^ j * x * sm 17 (fun k => 256 ^ k * b.getD k 0) := by
  obtain ⟨r, hr⟩ : ∃ r, 17 = j + r := ⟨17 - j, by omega⟩
  conv => lhs; rw [hr, sm_split]
  conv => rhs; rw [hr, Nat.add_comm j r, sm_split, Nat.mul_add, ← sm_mul, ← sm_mul]
  rw [Nat.add_comm]
  congr 1
  · refine sm_congr fun i hi => ?_
    rw [if_pos (by omega), show j + i - j = i by omega, Nat.pow_add]
    simp only [Nat.mul_assoc, Nat.mul_left_comm]
  · refine sm_congr fun i hi => ?_
    rw [if_neg (by omega), show j + r + i - j = r + i by omega, show j + r + i = j + (r + i) by omega, Nat.pow_add]
    simp only [Nat.mul_assoc, Nat.mul_left_comm]
theorem sm_tail (i : Nat) (hi : i < 17) (f : Nat → Nat) : sm 17 f = sm (i + 1) f + sm (16 - i) (fun q => f (i + 1 + q)) := by
  rw [← sm_split, show i + 1 + (16 - i) = 17 by omega]
theorem prod_val (a b : List Nat) (ha : a.length ≤ 17) (hb : b.length ≤ 17) : Dig.val a * Dig.val b = sm 17 (fun i => 256 ^ i * conv a b i) + 256 ^ 17 * sm 17 (fun i => 256 ^ i * wrapc a b i (16 - i)) := by
  have h1 : Dig.val a * Dig.val b = sm 17 (fun j => sm 17 (fun i => if j ≤ i then 256 ^ i * (a.getD j 0 * b.getD (i - j) 0) else 256 ^ (17 + i) * (a.getD j 0 * b.getD (17 + i - j) 0))) := by
    rw [sm_congr (fun j hj => row_sum b (a.getD j 0) j hj), ← Dig.val_sm b 17 hb]
    rw [sm_congr (g := fun j => Dig.val b * (256 ^ j * a.getD j 0)) (fun j _ => Nat.mul_comm _ _), sm_mul, ← Dig.val_sm a 17 ha, Nat.mul_comm]
  rw [h1, sm_swap, ← sm_mul, ← sm_add]
  refine sm_congr fun i hi => ?_
  rw [sm_tail i hi]
  congr 1
  · rw [conv, ← sm_mul]
    refine sm_congr fun j hj => ?_
    rw [if_pos (by omega)]
  · rw [wrapc, ← sm_mul, ← sm_mul]
    refine sm_congr fun q hq => ?_
    rw [if_neg (by omega), show 17 + i - (i + 1 + q) = 16 - q by omega, Nat.pow_add, Nat.mul_assoc]
theorem p136 : 256 ^ 17 = 320 + P * 64 := by unfold P; decide
theorem mulD_val (a b l : List Nat) (ha : a.length ≤ 17) (hb : b.length ≤ 17) (hl : l.length = 17) (h : ∀ i, i < 17 → l.getD i 0 = mulD a b i) : Dig.val l % P = Dig.val a * Dig.val b % P := by
  have h1 : Dig.val l = sm 17 (fun i => 256 ^ i * conv a b i) + 320 * sm 17 (fun i => 256 ^ i * wrapc a b i (16 - i)) := by
    rw [Dig.val_sm l 17 (by omega), ← sm_mul, ← sm_add]
    refine sm_congr fun i hi => ?_
    rw [h i hi, mulD, Nat.mul_add, Nat.mul_left_comm]
  rw [prod_val a b ha hb, h1, p136, Nat.add_mul, ← Nat.add_assoc, Nat.mul_assoc P, Nat.add_mul_mod_self_left]
theorem conv_le (a b : List Nat) (i : Nat) (ha : ∀ j, a.getD j 0 < 512) (hb : ∀ j, b.getD j 0 < 256) (k : Nat) : sm k (fun j => a.getD j 0 * b.getD (i - j) 0) ≤ k * 130305 := by
  refine sm_le fun j _ => ?_
  have h1 := ha j
  have h2 := hb (i - j)
  exact Nat.le_trans (Nat.mul_le_mul (show a.getD j 0 ≤ 511 by omega) (show b.getD (i - j) 0 ≤ 255 by omega)) (by decide)
theorem wrapc_le (a b : List Nat) (i : Nat) (ha : ∀ j, a.getD j 0 < 512) (hb : ∀ j, b.getD j 0 < 256) (k : Nat) : wrapc a b i k ≤ k * 130305 := by
  refine sm_le fun j _ => ?_
  have h1 := ha (i + 1 + j)
  have h2 := hb (16 - j)
  exact Nat.le_trans (Nat.mul_le_mul (show a.getD (i + 1 + j) 0 ≤ 511 by omega) (show b.getD (16 - j) 0 ≤ 255 by omega)) (by decide)
end Pol
theorem getD_set (l : List Nat) (i j x : Nat) (hi : i < l.length) : (l.set i x).getD j 0 = if j = i then x else l.getD j 0 := by
  rw [List.getD_eq_getElem?_getD, List.getD_eq_getElem?_getD, List.getElem?_set]
  by_cases h : i = j
  · subst h; rw [if_pos rfl, if_pos hi, if_pos rfl]; rfl
  · rw [if_neg h, if_neg (fun e => h e.symm)]
theorem Dig.val_put : ∀ (l : List Nat) (i x : Nat), i < l.length → Dig.val (l.set i x) + 256 ^ i * l.getD i 0 = Dig.val l + 256 ^ i * x
  | [], i, x, h => absurd h (Nat.not_lt_zero _)
  | d :: r, 0, x, _ => by simp [Dig.val]; omega
  | d :: r, i + 1, x, h => by
    have ih := Dig.val_put r i x (by simpa using h)
    show d + 256 * Dig.val (r.set i x) + 256 ^ (i + 1) * r.getD i 0 = d + 256 * Dig.val r + 256 ^ (i + 1) * x
    rw [Nat.pow_succ, Nat.mul_comm (256 ^ i) 256, Nat.mul_assoc, Nat.mul_assoc]
    omega
namespace Pol
/-- Seventeen digits, all but the highest below 256. -/
def Car (l : List Nat) : Prop := l.length = 17 ∧ ∀ i, i < 16 → l.getD i 0 < 256
theorem take_lt (l : List Nat) (i : Nat) (h : ∀ j, j < i → l.getD j 0 < 256) : Dig.val (l.take i) < 256 ^ i := by
  induction i with
  | zero => simp [Dig.val]
  | succ i ih =>
    have h1 := ih (fun j hj => h j (by omega))
    have h2 := h i (by omega)
    rw [Dig.val_take, Nat.pow_succ]
    have h3 := Nat.mul_le_mul_left (256 ^ i) (show l.getD i 0 + 1 ≤ 256 by omega)
    rw [Nat.mul_add, Nat.mul_one] at h3
    omega
theorem val_top {l : List Nat} (h : l.length = 17) : Dig.val l = Dig.val (l.take 16) + 256 ^ 16 * l.getD 16 0 := by
  rw [← Dig.val_take, Dig.val_all l 17 (by omega)]
theorem Car.top {l : List Nat} (h : Car l) : l.getD 16 0 = Dig.val l / 256 ^ 16 := by
  have h1 := take_lt l 16 h.2
  rw [val_top h.1, Nat.add_mul_div_left _ _ (by decide), Nat.div_eq_of_lt h1, Nat.zero_add]
theorem Car.digit {l : List Nat} (h : Car l) (i : Nat) (hi : i < 16) : l.getD i 0 = Dig.val l / 256 ^ i % 256 := by
  have hp : 0 < 256 ^ i := Nat.pow_pos (by decide)
  have hl : i < l.length := by rw [h.1]; omega
  have h1 : Dig.val l = Dig.val (l.take i) + 256 ^ i * Dig.val (l.drop i) := by
    conv => lhs; rw [← List.take_append_drop i l]
    rw [Dig.val_append, List.length_take, Nat.min_eq_left (Nat.le_of_lt hl)]
  have h2 : Dig.val (l.drop i) = l.getD i 0 + 256 * Dig.val (l.drop (i + 1)) := by
    rw [List.drop_eq_getElem_cons hl, List.getD_eq_getElem?_getD, List.getElem?_eq_getElem hl]
    rfl
  rw [h1, Nat.add_mul_div_left _ _ hp, Nat.div_eq_of_lt (take_lt l i fun j hj => h.2 j (by omega)), Nat.zero_add, h2, Nat.add_mul_mod_self_left, Nat.mod_eq_of_lt (h.2 i hi)]
/-- Where carry stands ahead of digit i. -/
def Carry (o c : List Nat) (i v : Nat) : Prop := c.length = 17 ∧ Dig.val c + 256 ^ i * v = Dig.val o ∧ (∀ j, j < i → c.getD j 0 < 256) ∧ ∀ j, i ≤ j → c.getD j 0 = o.getD j 0
theorem Carry.start (o : List Nat) (h : o.length = 17) : Carry o o 0 0 := ⟨h, by simp, fun j hj => absurd hj (Nat.not_lt_zero _), fun _ _ => rfl⟩
theorem Carry.step {o c : List Nat} {i v : Nat} (h : Carry o c i v) (hi : i < 16) : Carry o (c.set i ((c.getD i 0 + v) % 256)) (i + 1) ((c.getD i 0 + v) / 256) := by
  obtain ⟨h1, h2, h3, h4⟩ := h
  refine ⟨by simpa using h1, ?_, fun j hj => ?_, fun j hj => ?_⟩
  · have h5 := Dig.val_put c i ((c.getD i 0 + v) % 256) (by omega)
    have h6 := Nat.mod_add_div (c.getD i 0 + v) 256
    generalize (c.getD i 0 + v) % 256 = x at *
    generalize (c.getD i 0 + v) / 256 = y at *
    rw [Nat.pow_succ, Nat.mul_assoc]
    have h7 : 256 ^ i * (x + 256 * y) = 256 ^ i * c.getD i 0 + 256 ^ i * v := by rw [h6, Nat.mul_add]
    rw [Nat.mul_add] at h7
    omega
  · rw [getD_set _ _ _ _ (by omega)]
    split
    · exact Nat.mod_lt _ (by decide)
    · exact h3 j (by omega)
  · rw [getD_set _ _ _ _ (by omega), if_neg (by omega)]
    exact h4 j (by omega)
theorem Carry.done {o c : List Nat} {v : Nat} (h : Carry o c 16 v) : Car (c.set 16 (c.getD 16 0 + v)) ∧ Dig.val (c.set 16 (c.getD 16 0 + v)) = Dig.val o := by
  obtain ⟨h1, h2, h3, h4⟩ := h
  refine ⟨⟨by simpa using h1, fun i hi => ?_⟩, ?_⟩
  · rw [getD_set _ _ _ _ (by omega), if_neg (by omega)]
    exact h3 i hi
  · have h5 := Dig.val_put c 16 (c.getD 16 0 + v) (by omega)
    rw [Nat.mul_add] at h5
    omega
theorem two130 : 256 ^ 16 * 4 = P + 5 := by unfold P; decide
/-- What fold leaves of a number that was carried. -/
def foldL (c : List Nat) : List Nat := (c.set 16 (c.getD 16 0 % 4)).set 0 (c.getD 0 0 + 5 * (c.getD 16 0 / 4))
theorem foldL_len (c : List Nat) : (foldL c).length = c.length := by simp [foldL]
theorem foldL_val {c : List Nat} (h : c.length = 17) : Dig.val (foldL c) + P * (c.getD 16 0 / 4) = Dig.val c := by
  have h1 := Dig.val_put c 16 (c.getD 16 0 % 4) (by omega)
  have h2 := Dig.val_put (c.set 16 (c.getD 16 0 % 4)) 0 (c.getD 0 0 + 5 * (c.getD 16 0 / 4)) (by simp; omega)
  rw [getD_set _ _ _ _ (by omega), if_neg (by omega), Nat.pow_zero, Nat.one_mul, Nat.one_mul] at h2
  have h3 := Nat.mod_add_div (c.getD 16 0) 4
  unfold foldL
  generalize c.getD 16 0 % 4 = x at *
  generalize c.getD 16 0 / 4 = y at *
  have h4 : 256 ^ 16 * c.getD 16 0 = 256 ^ 16 * x + (P + 5) * y := by rw [← h3, Nat.mul_add, ← Nat.mul_assoc, two130]
  rw [h4, Nat.add_mul] at h1
  generalize c.getD 0 0 = z at *
  omega
theorem foldL_mod {c : List Nat} (h : c.length = 17) : Dig.val (foldL c) % P = Dig.val c % P := by
  rw [← foldL_val h, Nat.add_mul_mod_self_left]
/-- A number that has been folded. -/
def Fold (l : List Nat) : Prop := Car l ∧ Dig.val l < 2 * P
theorem foldL_lt {c : List Nat} (h : Car c) (ht : c.getD 16 0 < 4294967296) : Dig.val (foldL c) < 2 * P := by
  have h1 := foldL_val h.1
  have h2 := take_lt c 16 h.2
  have h3 := val_top h.1
  have h4 := Nat.mod_add_div (c.getD 16 0) 4
  have h5 := Nat.mod_lt (c.getD 16 0) (show 0 < 4 by decide)
  have h6 : c.getD 16 0 / 4 < 1073741824 := by omega
  generalize c.getD 16 0 % 4 = x at *
  generalize c.getD 16 0 / 4 = y at *
  have h7 : 256 ^ 16 * c.getD 16 0 = 256 ^ 16 * x + (P + 5) * y := by rw [← h4, Nat.mul_add, ← Nat.mul_assoc, two130]
  have h8 : 256 ^ 16 * x ≤ 256 ^ 16 * 3 := Nat.mul_le_mul_left _ (by omega)
  have h9 : 256 ^ 16 * 3 + 256 ^ 16 + 5 * 1073741824 < 2 * P := by unfold P; decide
  rw [h7, Nat.add_mul] at h3
  omega
theorem Fold.top {l : List Nat} (h : Fold l) : l.getD 16 0 < 8 := by
  rw [h.1.top]
  refine (Nat.div_lt_iff_lt_mul (by decide)).2 (Nat.lt_trans h.2 ?_)
  unfold P; decide
theorem Fold.at {l : List Nat} (h : Fold l) (i : Nat) : l.getD i 0 < 256 := by
  rcases Nat.lt_or_ge i 16 with h1 | h1
  · exact h.1.2 i h1
  · rcases Nat.eq_or_lt_of_le h1 with h2 | h2
    · subst h2; have := h.top; omega
    · rw [List.getD_eq_getElem?_getD, List.getElem?_eq_none (by have := h.1.1; omega)]; decide
/-- leastOf: whether five more reach 2^130. -/
theorem least_lt {l m : List Nat} (hm : Car m) (hv : Dig.val m = Dig.val l + 5) (ht : m.getD 16 0 < 4) : Dig.val l = Dig.val l % P := by
  have h1 := take_lt m 16 hm.2
  have h2 := val_top hm.1
  have h3 : 256 ^ 16 * m.getD 16 0 ≤ 256 ^ 16 * 3 := Nat.mul_le_mul_left _ (by omega)
  have h4 : 256 ^ 16 * 3 + 256 ^ 16 = P + 5 := by unfold P; decide
  rw [Nat.mod_eq_of_lt (by omega)]
theorem least_ge {l m : List Nat} (h : Fold l) (hm : Car m) (hv : Dig.val m = Dig.val l + 5) (ht : ¬ m.getD 16 0 < 4) : Car (m.set 16 (m.getD 16 0 - 4)) ∧ Dig.val (m.set 16 (m.getD 16 0 - 4)) = Dig.val l % P := by
  have h1 := Dig.val_put m 16 (m.getD 16 0 - 4) (by have := hm.1; omega)
  have h2 : 256 ^ 16 * m.getD 16 0 = 256 ^ 16 * (m.getD 16 0 - 4) + (P + 5) := by
    rw [← two130, ← Nat.mul_add]; congr 1; omega
  refine ⟨⟨by simpa using hm.1, fun i hi => ?_⟩, ?_⟩
  · rw [getD_set _ _ _ _ (by have := hm.1; omega), if_neg (by omega)]
    exact hm.2 i hi
  · have h3 := h.2
    have h4 : P ≤ Dig.val l := by
      have h5 := val_top hm.1
      have h6 : 256 ^ 16 * 4 ≤ 256 ^ 16 * m.getD 16 0 := Nat.mul_le_mul_left _ (by omega)
      rw [two130] at h6
      omega
    rw [Nat.mod_eq_sub_mod h4, Nat.mod_eq_of_lt (by omega)]
    omega
/-- Digitwise a sum. -/
theorem sum_val (a b l : List Nat) (ha : a.length ≤ 17) (hb : b.length ≤ 17) (hl : l.length = 17) (h : ∀ i, i < 17 → l.getD i 0 = a.getD i 0 + b.getD i 0) : Dig.val l = Dig.val a + Dig.val b := by
  rw [Dig.val_sm l 17 (by omega), Dig.val_sm a 17 ha, Dig.val_sm b 17 hb, ← sm_add]
  exact sm_congr fun i hi => by rw [h i hi, Nat.mul_add]
end Pol
theorem digitsOf_at (l : List UInt8) (i : Nat) : (digitsOf l).getD i 0 = (l.getD i 0).toNat := by
  rw [List.getD_eq_getElem?_getD, List.getD_eq_getElem?_getD, digitsOf, List.getElem?_map]
  cases l[i]? <;> rfl
theorem list_getD {a b : List Nat} (h : a.length = b.length) (k : ∀ i, i < a.length → a.getD i 0 = b.getD i 0) : a = b := by
  refine List.ext_getElem h fun i h1 h2 => ?_
  have := k i h1
  rw [List.getD_eq_getElem?_getD, List.getD_eq_getElem?_getD, List.getElem?_eq_getElem h1, List.getElem?_eq_getElem h2] at this
  exact this
namespace Pol
/-- The bytes of a piece, in the sum already. -/
def addAt (S : List Nat) (ds : List UInt8) : List Nat := (List.range 17).map fun i => S.getD i 0 + (ds.getD i 0).toNat
theorem addAt_len (S : List Nat) (ds : List UInt8) : (addAt S ds).length = 17 := by simp [addAt]
theorem addAt_at (S : List Nat) (ds : List UInt8) (i : Nat) (h : i < 17) : (addAt S ds).getD i 0 = S.getD i 0 + (ds.getD i 0).toNat := by
  rw [List.getD_eq_getElem?_getD, addAt, List.getElem?_map, List.getElem?_range h]
  rfl
theorem addAt_nil (S : List Nat) (h : S.length = 17) : addAt S [] = S := list_getD (by rw [addAt_len, h]) fun i hi => by
  rw [addAt_at _ _ _ (by rw [addAt_len] at hi; exact hi)]
  rfl
theorem addAt_next (S : List Nat) (ds : List UInt8) (h : ds.length < 17) : (addAt S ds).getD ds.length 0 = S.getD ds.length 0 := by
  rw [addAt_at _ _ _ h, List.getD_eq_getElem?_getD (l := ds), List.getElem?_eq_none (Nat.le_refl _)]
  rfl
theorem addAt_snoc (S : List Nat) (ds : List UInt8) (x : UInt8) (h : ds.length < 17) : (addAt S ds).set ds.length (S.getD ds.length 0 + x.toNat) = addAt S (ds ++ [x]) := by
  refine list_getD (by simp [addAt]) fun i hi => ?_
  have hi17 : i < 17 := by rw [List.length_set, addAt_len] at hi; exact hi
  rw [getD_set _ _ _ _ (by rw [addAt_len]; exact h), addAt_at _ _ _ hi17, addAt_at _ _ _ hi17]
  rw [List.getD_eq_getElem?_getD (l := ds ++ [x])]
  by_cases he : i = ds.length
  · subst he
    rw [if_pos rfl, List.getElem?_append_right (Nat.le_refl _)]
    simp
  · rw [if_neg he]
    by_cases hlt : i < ds.length
    · rw [List.getElem?_append_left hlt, ← List.getD_eq_getElem?_getD]
    · rw [List.getElem?_append_right (by omega), List.getD_eq_getElem?_getD (l := ds), List.getElem?_eq_none (l := ds) (by omega), List.getElem?_eq_none (l := [x]) (by simp; omega)]
theorem addAt_val (S : List Nat) (ds : List UInt8) (hS : S.length = 17) (h : ds.length ≤ 17) : Dig.val (addAt S ds) = Dig.val S + Dig.val (digitsOf ds) :=
  sum_val S (digitsOf ds) (addAt S ds) (by omega) (by rw [digitsOf_len]; exact h) (addAt_len _ _) fun i hi => by rw [addAt_at _ _ _ hi, digitsOf_at]
theorem num_pre (l x : List UInt8) (j : Nat) (h : 16 * (j + 1) ≤ l.length) : num (l ++ x) j = num l j := by
  unfold num
  rw [List.drop_append_of_le_length (by omega), List.take_append_of_le_length (by simp; omega)]
theorem acc_pre (r : Nat) (l x : List UInt8) : ∀ j, 16 * j ≤ l.length → acc r (l ++ x) j = acc r l j
  | 0, _ => rfl
  | j + 1, h => by rw [acc, acc, acc_pre r l x j (by omega), num_pre l x j h]
/-- The piece that is not whole yet. -/
def rest (l : List UInt8) : List UInt8 := l.drop (16 * (l.length / 16))
theorem rest_len (l : List UInt8) : (rest l).length = l.length % 16 := by unfold rest; rw [List.length_drop]; omega
/-- D are the digits of the sum behind l. -/
def Sum (r : Nat) (l : List UInt8) (D : List Nat) : Prop := ∃ S, Fold S ∧ Dig.val S % P = acc r l (l.length / 16) ∧ D = addAt S (rest l)
theorem rest_snoc (l : List UInt8) (x : UInt8) (h : (l.length + 1) % 16 ≠ 0) : rest (l ++ [x]) = rest l ++ [x] := by
  unfold rest
  rw [List.length_append, List.length_singleton, show (l.length + 1) / 16 = l.length / 16 by omega, List.drop_append_of_le_length (by omega)]
theorem rest_full (l : List UInt8) (x : UInt8) (h : (l.length + 1) % 16 = 0) : rest (l ++ [x]) = [] := by
  unfold rest
  rw [List.length_append, List.length_singleton]
  exact List.drop_of_length_le (by simp; omega)
theorem Sum.start (r : Nat) : Sum r [] (List.replicate 17 0) := by
  refine ⟨List.replicate 17 0, ⟨⟨rfl, fun i hi => ?_⟩, ?_⟩, ?_, ?_⟩
  · rw [List.getD_eq_getElem?_getD, List.getElem?_replicate]; split <;> decide
  · unfold P; decide
  · show Dig.val (List.replicate 17 0) % P = 0
    decide
  · decide
theorem Sum.len {r : Nat} {l : List UInt8} {D : List Nat} (h : Sum r l D) : D.length = 17 := by
  obtain ⟨S, _, _, rfl⟩ := h
  exact addAt_len _ _
theorem Sum.lt {r : Nat} {l : List UInt8} {D : List Nat} (h : Sum r l D) (i : Nat) : D.getD i 0 < 511 := by
  obtain ⟨S, h1, _, rfl⟩ := h
  by_cases hi : i < 17
  · rw [addAt_at _ _ _ hi]
    have h2 := h1.at i
    have h3 := UInt8.toNat_lt ((rest l).getD i 0)
    omega
  · rw [List.getD_eq_getElem?_getD, List.getElem?_eq_none (by rw [addAt_len]; omega)]; decide
/-- The place where the next byte goes holds what was carried. -/
theorem Sum.next {r : Nat} {l : List UInt8} {D : List Nat} (h : Sum r l D) : D.getD (l.length % 16) 0 < 256 := by
  obtain ⟨S, h1, _, rfl⟩ := h
  have h2 := addAt_next S (rest l) (by rw [rest_len]; omega)
  rw [rest_len] at h2
  rw [h2]
  exact h1.at _
theorem Sum.take {r : Nat} {l : List UInt8} {D : List Nat} (h : Sum r l D) (x : UInt8) (hn : (l.length + 1) % 16 ≠ 0) : Sum r (l ++ [x]) (D.set (l.length % 16) (D.getD (l.length % 16) 0 + x.toNat)) := by
  obtain ⟨S, h1, h2, rfl⟩ := h
  refine ⟨S, h1, ?_, ?_⟩
  · rw [List.length_append, List.length_singleton, show (l.length + 1) / 16 = l.length / 16 by omega, acc_pre _ _ _ _ (by omega), h2]
  · have h3 := addAt_snoc S (rest l) x (by rw [rest_len]; omega)
    have h4 := addAt_next S (rest l) (by rw [rest_len]; omega)
    rw [rest_snoc l x hn, ← h3, rest_len]
    rw [rest_len] at h4
    rw [h4]
theorem mod_step {a b n r : Nat} (h : a % P = b) : (a + n) * r % P = (b + n) * r % P := by
  rw [← h, Nat.mul_mod (a + n), Nat.mul_mod (a % P + n), Nat.mod_add_mod]
/-- A piece is whole: what times makes of the sum. -/
theorem Sum.full {r : Nat} {l : List UInt8} {D D1 D2 S' : List Nat} (h : Sum r l D) (x : UInt8) (hn : (l.length + 1) % 16 = 0) (h1 : D1 = D.set (l.length % 16) (D.getD (l.length % 16) 0 + x.toNat)) (h2 : D2 = D1.set 16 (D1.getD 16 0 + 1))
    (hf : Fold S') (hv : Dig.val S' % P = Dig.val D2 * r % P) : Sum r (l ++ [x]) S' := by
  obtain ⟨S, h3, h4, rfl⟩ := h
  have h5 := addAt_snoc S (rest l) x (by rw [rest_len]; omega)
  have h6 := addAt_next S (rest l) (by rw [rest_len]; omega)
  have hl : (rest l ++ [x]).length = 16 := by rw [List.length_append, List.length_singleton, rest_len]; omega
  have h7 := addAt_snoc S (rest l ++ [x]) 1 (by omega)
  have h8 := addAt_next S (rest l ++ [x]) (by omega)
  rw [hl] at h7 h8
  have h9 := addAt_val S (rest l ++ [x] ++ [1]) h3.1.1 (by rw [List.length_append, hl]; exact Nat.le_refl _)
  rw [rest_len] at h5 h6
  rw [h6, h5] at h1
  subst h1
  rw [h8] at h2
  have e1 : (1 : UInt8).toNat = 1 := rfl
  rw [e1] at h7
  rw [h7] at h2
  subst h2
  refine ⟨S', hf, ?_, ?_⟩
  · rw [List.length_append, List.length_singleton, show (l.length + 1) / 16 = l.length / 16 + 1 by omega, acc, acc_pre _ _ _ _ (by omega), hv, h9]
    have e2 : num (l ++ [x]) (l.length / 16) = Dig.val (digitsOf (rest l ++ [x] ++ [1])) := by
      unfold num
      rw [List.drop_append_of_le_length (by omega)]
      show Dig.val (digitsOf ((rest l ++ [x]).take 16 ++ [1])) = _
      rw [List.take_of_length_le (by omega)]
    rw [e2]
    exact mod_step h4
  · rw [rest_full l x hn, addAt_nil _ hf.1.1]
/-- The last piece, shorter than sixteen bytes. -/
theorem Sum.last {r : Nat} {l : List UInt8} {D D2 S' : List Nat} (h : Sum r l D) (hn : l.length % 16 ≠ 0) (h2 : D2 = D.set (l.length % 16) (D.getD (l.length % 16) 0 + 1)) (hv : Dig.val S' % P = Dig.val D2 * r % P) :
    Dig.val S' % P = acc r l ((l.length + 15) / 16) := by
  obtain ⟨S, h3, h4, rfl⟩ := h
  have h5 := addAt_snoc S (rest l) 1 (by rw [rest_len]; omega)
  have h6 := addAt_next S (rest l) (by rw [rest_len]; omega)
  have h9 := addAt_val S (rest l ++ [1]) h3.1.1 (by rw [List.length_append, rest_len]; simp; omega)
  rw [rest_len] at h5 h6
  have e1 : (1 : UInt8).toNat = 1 := rfl
  rw [e1] at h5
  rw [h6, h5] at h2
  subst h2
  rw [show (l.length + 15) / 16 = l.length / 16 + 1 by omega, acc, hv, h9]
  have e2 : num l (l.length / 16) = Dig.val (digitsOf (rest l ++ [1])) := by
    unfold num
    show Dig.val (digitsOf ((rest l).take 16 ++ [1])) = _
    rw [List.take_of_length_le (by rw [rest_len]; omega)]
  rw [e2]
  exact mod_step h4
theorem Sum.whole {r : Nat} {l : List UInt8} {D : List Nat} (h : Sum r l D) (hn : l.length % 16 = 0) : Fold D ∧ Dig.val D % P = acc r l ((l.length + 15) / 16) := by
  obtain ⟨S, h3, h4, rfl⟩ := h
  have h0 : rest l = [] := List.eq_nil_of_length_eq_zero (by rw [rest_len]; exact hn)
  rw [h0, addAt_nil _ h3.1.1]
  exact ⟨h3, by rw [h4, show (l.length + 15) / 16 = l.length / 16 by omega]⟩
end Pol
namespace Pol
/-- Where clamp stands: the first loop ahead of i. -/
def Cl1 (d c : List Nat) (i : Nat) : Prop := c.length = 17 ∧ ∀ j, c.getD j 0 = if j % 4 = 3 ∧ j < i then d.getD j 0 % 16 else d.getD j 0
def Cl2 (d c : List Nat) (i : Nat) : Prop := c.length = 17 ∧ ∀ j, j < 16 → c.getD j 0 = if j % 4 = 3 then d.getD j 0 % 16 else if j % 4 = 0 ∧ 0 < j ∧ j < i then d.getD j 0 - d.getD j 0 % 4 else d.getD j 0
theorem Cl1.start (d : List Nat) (h : d.length = 17) : Cl1 d d 3 := ⟨h, fun j => by rw [if_neg (by omega)]⟩
theorem Cl1.at {d c : List Nat} {i : Nat} (h : Cl1 d c i) : c.getD i 0 = d.getD i 0 := by rw [h.2, if_neg (by omega)]
theorem Cl1.step {d c : List Nat} {i : Nat} (h : Cl1 d c i) (hi : i % 4 = 3) (h16 : i < 16) : Cl1 d (c.set i (d.getD i 0 % 16)) (i + 4) := by
  refine ⟨by simpa using h.1, fun j => ?_⟩
  rw [getD_set _ _ _ _ (by have := h.1; omega), h.2]
  by_cases he : j = i
  · subst he; rw [if_pos rfl, if_pos ⟨hi, by omega⟩]
  · rw [if_neg he]
    by_cases h1 : j % 4 = 3 ∧ j < i
    · rw [if_pos h1, if_pos ⟨h1.1, by omega⟩]
    · rw [if_neg h1, if_neg (by omega)]
theorem Cl1.done {d c : List Nat} {i : Nat} (h : Cl1 d c i) (hi : 16 ≤ i) : Cl2 d c 4 := by
  refine ⟨h.1, fun j hj => ?_⟩
  rw [h.2]
  by_cases h1 : j % 4 = 3
  · rw [if_pos ⟨h1, by omega⟩, if_pos h1]
  · rw [if_neg (fun e => h1 e.1), if_neg h1, if_neg (by omega)]
theorem Cl2.at {d c : List Nat} {i : Nat} (h : Cl2 d c i) (hi : i % 4 = 0) (h16 : i < 16) : c.getD i 0 = d.getD i 0 := by rw [h.2 i h16, if_neg (by omega), if_neg (by omega)]
theorem Cl2.step {d c : List Nat} {i : Nat} (h : Cl2 d c i) (hi : i % 4 = 0) (h0 : 0 < i) (h16 : i < 16) : Cl2 d (c.set i (d.getD i 0 - d.getD i 0 % 4)) (i + 4) := by
  refine ⟨by simpa using h.1, fun j hj => ?_⟩
  rw [getD_set _ _ _ _ (by have := h.1; omega), h.2 j hj]
  by_cases he : j = i
  · subst he; rw [if_pos rfl, if_neg (by omega), if_pos ⟨hi, by omega, by omega⟩]
  · rw [if_neg he]
    by_cases h1 : j % 4 = 3
    · rw [if_pos h1, if_pos h1]
    · rw [if_neg h1, if_neg h1]
      by_cases h2 : j % 4 = 0 ∧ 0 < j ∧ j < i
      · rw [if_pos h2, if_pos ⟨h2.1, h2.2.1, by omega⟩]
      · rw [if_neg h2, if_neg (by omega)]
theorem clL_getD (l : List Nat) (i : Nat) (hl : l.length = 16) (hi : i < 16) : (clL l 16).getD i 0 = cl i (l.getD i 0) := by
  rw [List.getD_eq_getElem?_getD, List.getD_eq_getElem?_getD, clL, List.getElem?_mapIdx, List.getElem?_eq_getElem (by omega)]
  show (if i < 16 then cl i _ else _) = _
  rw [if_pos hi]
  rfl
theorem cat0_getD (l : List Nat) (i : Nat) : (l ++ [0]).getD i 0 = l.getD i 0 := by
  rw [List.getD_eq_getElem?_getD, List.getD_eq_getElem?_getD]
  by_cases h : i < l.length
  · rw [List.getElem?_append_left h]
  · rw [List.getElem?_append_right (by omega), List.getElem?_eq_none (l := l) (by omega)]
    rcases Nat.eq_zero_or_pos (i - l.length) with h1 | h1
    · rw [h1]; rfl
    · rw [List.getElem?_eq_none (by simp; omega)]
/-- Sixteen digits, and a 0 at the top. -/
theorem Cl2.done {l c : List Nat} {i : Nat} (hl : l.length = 16) (h : Cl2 (l ++ [0]) c i) (hi : 16 ≤ i) (h16 : c.getD 16 0 = 0) : c = clL l 16 ++ [0] := by
  refine list_getD (by simp [clL, hl, h.1]) fun j hj => ?_
  rw [h.1] at hj
  rw [cat0_getD]
  by_cases he : j = 16
  · subst he
    rw [h16, List.getD_eq_getElem?_getD, List.getElem?_eq_none (by simp [clL, hl])]
    rfl
  · rw [h.2 j (by omega), cat0_getD, clL_getD l j hl (by omega), cl]
    by_cases h1 : j % 4 = 3
    · rw [if_pos h1, if_pos h1]
    · rw [if_neg h1, if_neg h1]
      by_cases h2 : j % 4 = 0 ∧ 0 < j
      · rw [if_pos h2, if_pos ⟨h2.1, h2.2, by omega⟩]
      · rw [if_neg h2, if_neg (fun e => h2 ⟨e.1, e.2.1⟩)]
theorem val_cat0 (l : List Nat) : Dig.val (l ++ [0]) = Dig.val l := by rw [Dig.val_snoc]; omega
theorem and15 (x : Nat) : x &&& 15 = x % 16 := Nat.and_two_pow_sub_one_eq_mod x 4
theorem and255 (x : Nat) : x &&& 255 = x % 256 := Nat.and_two_pow_sub_one_eq_mod x 8
theorem and3 (x : Nat) : x &&& 3 = x % 4 := Nat.and_two_pow_sub_one_eq_mod x 2
set_option maxRecDepth 100000 in
theorem and252 (x : Nat) (h : x < 256) : x &&& 252 = x - x % 4 := by
  have : ∀ y : Fin 256, y.1 &&& 252 = y.1 - y.1 % 4 := by decide
  exact this ⟨x, h⟩
end Pol
end Go.Proofs.YtpogfcfgbnccjaaDoor
namespace Go.Proofs.YtpogfcfgbnccjaaDoor
open Go.RowKit

/-- The cells of a tagger of the program's: r, s, the sum, and how many bytes the last piece has. -/
def tcells (R S D : List Nat) (m : Nat) : List Value := u32V R ++ u32V S ++ u32V D ++ [.int .i64 ((m : Nat) : Int)]
/-- A tagger of the program's: its key, and what it has taken. -/
def TRep (T : Tags) (w : World) (c : Nat × Nat) (b : Nat) (key l : List UInt8) : Prop := ∃ D, Pol.Sum (Pol.rOf key) l D ∧ At T w c b 70 (tcells (Pol.clL (digitsOf (key.take 16)) 16 ++ [0]) (digitsOf (key.drop 16) ++ [0]) D (l.length % 16))
end Go.Proofs.YtpogfcfgbnccjaaDoor
namespace Go.Proofs.YtpogfcfgbnccjaaDoor
open Go.RowKit

/-- The key's block, each byte with c. -/
def padL (key : List UInt8) (c : UInt8) : List UInt8 := ((if 64 < key.length then Sha.sum key else key) ++ List.replicate (64 - (if 64 < key.length then Sha.sum key else key).length) 0).map (· ^^^ c)
/-- A mac: its inner and its outer hasher lie in one block. -/
def MRep (w : World) (b : Nat) (t : TypeId) (key l : List UInt8) : Prop :=
  ∃ ci co : List Value, ci.length = 73 ∧ co.length = 73 ∧ HRep w b t [] co (padL key 0x36 ++ l) ∧ HRep w b t ci [] (padL key 0x5c)
end Go.Proofs.YtpogfcfgbnccjaaDoor
namespace Go.Proofs.YtpogfcfgbnccjaaDoor
open Go.RowKit

/-- A text and an error. -/
def ansV (a : List UInt8 × Int) : Value := .tuple #[.string ⟨a.1.toArray⟩, .int .i64 a.2]
namespace Cha
end Cha
namespace Pol
def tagAns (key text : ByteArray) : List UInt8 × Int := if key.size ≠ 32 then ([], 1) else (tag key.data.toList text.data.toList, 0)
end Pol
namespace Box
end Box

/-! What the program's calls must do: proved of each landed program by its own texts. -/
def PTagOK : Prop := ∀ (key text : ByteArray) (w : World), text.size ≤ 1099511627 →
  Calls Tryd.prog 17 #[.string key, .string text] w fun e w' => e = .returned (ansV (Pol.tagAns key text)) ∧ Below w.heap.size w w'
def PBeginOK : Prop := ∀ (key : ByteArray) (T : Tags) (c : Nat × Nat) (w : World),
  Calls Tryd.prog 27 #[.string key] w fun e w' => (∃ v, e = .returned (.tuple #[v, .int .i64 (if key.size = 32 then 0 else 1)]) ∧
    ((key.size ≠ 32 ∧ v = .pointer none) ∨ (key.size = 32 ∧ ∃ b, v = .pointer (some ⟨b, 0, none⟩) ∧ TRep (fresh T w c) w' c b key.data.toList []))) ∧ Below w.heap.size w w'
def PWriteOK : Prop := ∀ (key : ByteArray) (l : List UInt8) (s : ByteArray) (T : Tags) (c : Nat × Nat) (b : Nat) (w : World), key.size = 32 → l.length ≤ 1073741824 → s.size ≤ 1099511627 → TRep T w c b key.data.toList l →
  Calls Tryd.prog 28 #[.pointer (some ⟨b, 0, none⟩), .string s] w fun e w' => e = .returned (.tuple #[]) ∧
    TRep (fresh T w c) w' c b key.data.toList (l ++ s.data.toList) ∧ Stays T (fresh T w c) w w' (fun x => x = c)
def PSumOK : Prop := ∀ (key : ByteArray) (l : List UInt8) (T : Tags) (c : Nat × Nat) (b : Nat) (w : World), key.size = 32 → l.length ≤ 1073741824 → TRep T w c b key.data.toList l →
  Calls Tryd.prog 29 #[.pointer (some ⟨b, 0, none⟩)] w fun e w' => e = .returned (.string ⟨(Pol.tag key.data.toList l).toArray⟩) ∧
    TRep (fresh T w c) w' c b key.data.toList l ∧ Stays T (fresh T w c) w w' (fun x => x = c)
end Go.Proofs.YtpogfcfgbnccjaaDoor
namespace Go.Proofs.YtpogfcfgbnccjaaDoor
open Go.RowKit

theorem sizeU8 (w : World) : (Go.sizeOf 5).run Tryd.prog w = .ok 1 w := by
  obtain ⟨i0, hi, hz0, hz1, hz2⟩ := info_parts infoU8
  simp [Go.sizeOf, typeInfo, hi, hz1]
/-- copy of a text into a block of bytes of its own. -/
theorem wpList_copy_str {ops : Array Oper} {rest : List Oper} {o : Oper} {a : Act} {w : World} {Q : Exit → Act → World → Prop} (hgd : o.guard = none) (d x : Operand)
    (ho : o.op = .call { callee := .builtin .copy, args := #[d, x], argTypes := #[42, 9] })
    (b : Nat) (cs : List Value) (n dCap : Nat) (hB : Blk w b 5 cs) (hn : cs.length = n) (hd : a.eval d = .slice (some ⟨b, 0, none⟩) n dCap) (t : ByteArray) (hx : a.eval x = .string t) (hle : t.size ≤ n)
    (h : ∀ w', Blk w' b 5 (laidOver cs 0 (u8L t.data.toList)) → w.grownBy w' (some b) → wpList Tryd.prog ops Q rest (a.put o.dst (goInt t.size)) w') : wpList Tryd.prog ops Q (o :: rest) a w := by
  have hrun := run_copy_string (P := Tryd.prog) w 42 9 o.type 5 b 0 n dCap t Tryd.underlying42 sizeU8 hle
    (fun j hj => by rw [Nat.zero_add, hB.cell (v := cs[j]'(by omega)) (by simp)]; rfl) (fun j _ => hB.frozen _)
  refine wpList_plain hgd fun _ hK => ?_
  unfold Oper.wp
  simp [execOp, ho, resolve, invoke, builtin, hd, hx, hrun, Result.andThen]
  refine hK _ _ (h _ ?_ (World.grownBy.setCells _ _ _ (World.grownBy.refl w _)))
  have hl : (u8L t.data.toList).length = t.size := by simp [u8L]
  exact Blk.setCells_same (u8L t.data.toList) cs 0 w hB (by omega)
theorem bytes_made (n : Nat) : madeCells (Value.int .u8 0).cells (n * 1) = (u8L (List.replicate n 0)).toArray := by
  apply Array.ext
  · simp [madeCells, u8L]
  · intro i h1 h2
    simp [madeCells, Value.cells, Nat.mod_one, u8L]
theorem make_bytes (n : Nat) (hn : n ≤ 1099511627776) (w : World) : (Instr.makeSlice 42 (.int .i64 (n : Nat)) (.int .i64 (n : Nat))).run Tryd.prog w = .ok (.slice (some ⟨w.heap.size, 0, none⟩) n n) (w.alloc (.cells (u8L (List.replicate n 0)).toArray 5)) := by
  obtain ⟨i0, hi, hz0, hz1, hz2⟩ := info_parts infoU8
  have h := run_make (P := Tryd.prog) w 42 5 i0 (.int .u8 0) Tryd.underlying42 hi hz0 .i64 .i64 (n : Int) (n : Int) (by omega) (by omega) (by rw [hz2]; omega) (by omega)
  rw [hz1] at h
  simp only [Int.toNat_natCast] at h
  rw [bytes_made] at h
  exact h
/-- A key of at most 64 bytes as a block. -/
def padB (key : List UInt8) : List UInt8 := key ++ List.replicate (64 - key.length) 0
theorem padB_len (key : List UInt8) (h : key.length ≤ 64) : (padB key).length = 64 := by unfold padB; simp; omega
theorem padB_laid (key : List UInt8) : laidOver (u8L (List.replicate 64 0)) 0 (u8L key) = u8L (padB key) := by
  unfold laidOver padB u8L
  rw [List.take_zero, List.nil_append, List.length_map, Nat.zero_add, ← List.map_drop, List.drop_replicate, ← List.map_append]
/-- The first k bytes with c. -/
def mixed (p : List UInt8) (c : UInt8) (k : Nat) : List UInt8 := (p.take k).map (· ^^^ c) ++ p.drop k
theorem mixed_at (p : List UInt8) (c : UInt8) (k : Nat) (hk : k < p.length) : (mixed p c k)[k]? = some p[k] := by
  unfold mixed
  rw [List.getElem?_append_right (by simp; omega)]
  simp [Nat.min_eq_left (Nat.le_of_lt hk), hk]
theorem mixed_set (p : List UInt8) (c : UInt8) (k : Nat) (hk : k < p.length) : (mixed p c k).set k (p[k] ^^^ c) = mixed p c (k + 1) := by
  have h1 : p.drop k = p[k] :: p.drop (k + 1) := List.drop_eq_getElem_cons hk
  have h2 : p.take (k + 1) = p.take k ++ [p[k]] := List.take_succ_eq_append_getElem hk
  have h3 : ((p.take k).map (· ^^^ c)).length = k := by simp; omega
  unfold mixed
  rw [h1, h2, List.map_append, List.set_append_right _ _ (by omega), h3, Nat.sub_self, List.set_cons_zero, List.append_assoc]
  rfl
theorem u8_xor (x c : UInt8) : bits .xor .u8 ((x.toNat : Nat) : Int) ((c.toNat : Nat) : Int) = (((x ^^^ c).toNat : Nat) : Int) := by
  have hx := UInt8.toNat_lt x
  have hc := UInt8.toNat_lt c
  have h1 : (BitVec.ofInt 8 ((x.toNat : Nat) : Int)).toNat = x.toNat := by rw [BitVec.ofInt_natCast, BitVec.toNat_ofNat]; exact Nat.mod_eq_of_lt hx
  have h2 : (BitVec.ofInt 8 ((c.toNat : Nat) : Int)).toNat = c.toNat := by rw [BitVec.ofInt_natCast, BitVec.toNat_ofNat]; exact Nat.mod_eq_of_lt hc
  have h3 : x.toNat ^^^ c.toNat < 2 ^ 8 := Nat.xor_lt_two_pow hx hc
  show IntKind.u8.wrap ((BitVec.ofInt 8 ((x.toNat : Nat) : Int) ^^^ BitVec.ofInt 8 ((c.toNat : Nat) : Int)).toNat : Int) = _
  rw [BitVec.toNat_xor, h1, h2, UInt8.toNat_xor]
  show ((x.toNat ^^^ c.toNat : Nat) : Int) % 256 = _
  omega
def zeroB : List Value := u8L (List.replicate 64 0)
theorem make_zero (w : World) : (Instr.makeSlice 42 (.int .i64 64) (.int .i64 64)).run Tryd.prog w = .ok (.slice (some ⟨w.heap.size, 0, none⟩) 64 64) (w.alloc (.cells zeroB.toArray 5)) := make_bytes 64 (by decide) w
theorem zeroB_len : zeroB.length = 64 := by simp [zeroB, u8L]

theorem blk_str {w : World} {b : Nat} {l : List UInt8} (h : Blk w b 5 (u8L l)) (n cap : Nat) (hn : l.length = n) : (convert 42 9 (.slice (some ⟨b, 0, none⟩) n cap)).run Tryd.prog w = .ok (.string ⟨l.toArray⟩) w := by
  subst hn
  refine run_convert_bytes_back w 42 9 5 ⟨b, 0, none⟩ cap l Tryd.underlying42 Tryd.underlying5 Tryd.underlying9 (fun j hj => ?_)
  rw [Addr.add_mid, Nat.zero_add]
  exact h.cell (by simp [u8L, hj])
theorem mixed_all (p : List UInt8) (c : UInt8) (k : Nat) (hk : p.length ≤ k) : mixed p c k = p.map (· ^^^ c) := by
  unfold mixed
  rw [List.take_of_length_le hk, List.drop_eq_nil_of_le hk, List.append_nil]
theorem mixed_zero (p : List UInt8) (c : UInt8) : mixed p c 0 = p := by simp [mixed]
theorem mixed_store {wr : World} {b k : Nat} {p : List UInt8} {c : UInt8} (h : Blk wr b 5 (u8L (mixed p c k))) (hk : k < p.length) : Blk (wr.setCell ⟨b, k, none⟩ (.int .u8 (((p[k] ^^^ c).toNat : Nat) : Int))) b 5 (u8L (mixed p c (k + 1))) := by
  have h1 := h.setCell_same k (.int .u8 (((p[k] ^^^ c).toNat : Nat) : Int))
  rw [← mixed_set p c k hk]
  unfold u8L at h1 ⊢
  rw [List.map_set]
  exact h1

set_option maxRecDepth 100000 in
set_option maxHeartbeats 800000 in
theorem begun_any (key : ByteArray) (c : UInt8) (w : World) (hl : key.size ≤ 64) (hk : KTab w) (hH : HTab w) (h2 : 2 ≤ w.heap.size) :
    Calls Tryd.prog 43 #[.string key, .int .u8 ((c.toNat : Nat) : Int)] w fun e w' => ∃ b, e = .returned (.pointer (some ⟨b, 0, none⟩)) ∧ w.heap.size ≤ b ∧ HRep w' b 59 [] [] ((padB key.data.toList).map (· ^^^ c)) ∧ Below w.heap.size w w' := by
  have hmk := make_zero
  have hkl : key.data.toList.length = key.size := by rw [Array.length_toList]; rfl
  have hpl := padB_len key.data.toList (by omega)
  have hla := padB_laid key.data.toList
  generalize padB key.data.toList = pb at *
  have HL := hide hpl
  have HLA := hide hla
  clear hpl hla hkl
  go_enter Tryd.func43, Tryd.ntmps43
  go_wp2_with (refine wpList_copy_str rfl (.tmp 9) (.tmp 10) rfl w.heap.size zeroB 64 64 (Blk.new rfl rfl) zeroB_len rfl key rfl hl ?_; intro w1 hB1 hG1)
  have hbe1 : Below w.heap.size w w1 := ((World.grownBy.refl w none).new hG1).none
  rw [show zeroB = u8L (List.replicate 64 0) from rfl, HLA.out, ← mixed_zero pb c] at hB1
  clear hG1 hmk
  go_loopw [6] (fun i wr => ∃ k : Nat, k ≤ 64 ∧ i = .int .i64 k ∧ Blk wr w.heap.size 5 (u8L (mixed pb c k)) ∧ Below w.heap.size w wr) (fun i _ => 64 - (intOf i).toNat)
  case atStart => exact ⟨0, by omega, rfl, hB1, hbe1⟩
  case round =>
    obtain ⟨k, hk2, rfl, hB, hbe⟩ := hrel
    by_cases hlt : k < 64
    · have hkp : k < pb.length := by rw [HL.out]; exact hlt
      have c0 : wr.cell? ⟨w.heap.size, k, none⟩ = some (.int .u8 ((pb[k].toNat : Nat) : Int)) := hB.cell (by simp [u8L, mixed_at pb c k hkp])
      have f0 := hB.frozen k
      have t1 := u8_xor pb[k] c
      have HN := hide (mixed_store hB hkp)
      have HBE := hide hbe
      clear hB hbe hB1 hbe1
      generalize pb[k] ^^^ c = y at *
      generalize pb[k] = x at *
      have jk : (k : Int) < 64 := by omega
      go_wp2
      go_roundw
      case rel => exact ⟨k + 1, by omega, by go_num, HN.out, HBE.out.setCell (by simp) _⟩
      case measure => simp [intOf]; omega
    · have hk64 : k = 64 := by omega
      subst hk64
      rw [mixed_all pb c 64 (by rw [HL.out]; exact Nat.le_refl _)] at hB
      have hpm : (pb.map (· ^^^ c)).length = 64 := by rw [List.length_map]; exact HL.out
      generalize hpe : pb.map (· ^^^ c) = pm at *
      have HPE := hide hpe
      clear hpe
      have hHr := hH.below hbe h2
      have hKr := hk.below hbe h2
      have hbs := hB.lt
      clear hB1 hbe1
      have HB := hide hB
      have HBE := hide hbe
      have HPM := hide hpm
      clear hB hbe hpm hk hH
      go_wp2_with fail
      refine (begin_any _ hHr).mono ?_
      rintro e w2 ⟨rfl, hr2, hb2⟩
      have hK2 := hKr.below hb2 (by have := HBE.out.size; omega)
      have hcv := blk_str (HB.out.below hb2 hbs) 64 64 HPM.out
      have h2b : 2 ≤ wr.heap.size := by have := HBE.out.size; omega
      have hge : w.heap.size ≤ wr.heap.size := HBE.out.size
      have HW := hide (hwrite_any wr.heap.size 59 [] [] [] ⟨pm.toArray⟩ w2 (by show 0 + pm.toArray.size < 2 ^ 62; rw [List.size_toArray, HPM.out]; decide) hr2 hK2 h2b)
      have HB2 := hide (HBE.out.trans (hb2.mono hge))
      have hl2 := hr2.lt
      clear hr2 hb2 hK2 hHr hKr
      generalize wr.heap.size = nb at *
      go_wp2_with fail
      refine HW.out.mono ?_
      rintro e w3 ⟨rfl, hr3, hg3⟩
      have HR3 := hide hr3
      have HB3 := hide (HB2.out.trans (RowKit.Below.of_grown hg3 hge (by omega)))
      clear hr3 hg3 hcv
      go_wp2
      go_ret
      rw [HPE.out]
      exact ⟨_, rfl, hge, HR3.out, HB3.out⟩

theorem padL_short (key : List UInt8) (c : UInt8) (h : key.length ≤ 64) : padL key c = (padB key).map (· ^^^ c) := by
  unfold padL padB
  rw [if_neg (by omega)]
theorem padL_long (key : List UInt8) (c : UInt8) (h : 64 < key.length) : padL key c = (padB (Sha.sum key)).map (· ^^^ c) := by
  unfold padL padB
  rw [if_pos h]
theorem padL_len (key : List UInt8) (c : UInt8) : (padL key c).length = 64 := by
  by_cases h : 64 < key.length
  · rw [padL_long key c h, List.length_map, padB_len _ (by rw [Sha.sum_len]; decide)]
  · rw [padL_short key c (by omega), List.length_map, padB_len _ (by omega)]

end Go.Proofs.YtpogfcfgbnccjaaDoor
namespace Go.Proofs.YtpogfcfgbnccjaaDoor
open Go.RowKit

theorem laidOver_cons (cs : List Value) (o : Nat) (v : Value) (r : List Value) (hl : o < cs.length) : laidOver (cs.set o v) (o + 1) r = laidOver cs o (v :: r) := by
  unfold laidOver
  rw [List.take_succ_eq_append_getElem (by simpa using hl), List.getElem_set_self, List.take_set_of_le (Nat.le_refl _), List.drop_set_of_lt (by omega)]
  simp only [List.length_cons, List.append_assoc, List.cons_append, List.nil_append]
  rw [show o + 1 + r.length = o + (r.length + 1) by omega]
theorem foldl_set (off : Nat) : ∀ (vs : List Value) (k : Nat) (cs : Array Value), off + k + vs.length ≤ cs.size →
    ((vs.zipIdx k).foldl (fun (cs : Array Value) (x : Value × Nat) => cs.setIfInBounds (off + x.2) x.1) cs).toList = laidOver cs.toList (off + k) vs
  | [], k, cs, _ => by simp [laidOver]
  | v :: r, k, cs, h => by
    simp only [List.length_cons] at h
    rw [List.zipIdx_cons, List.foldl_cons, foldl_set off r (k + 1) _ (by simp; omega)]
    show laidOver (cs.setIfInBounds (off + k) v).toList (off + (k + 1)) r = _
    rw [Array.toList_setIfInBounds]
    exact laidOver_cons cs.toList (off + k) v r (by simp; omega)
theorem foldl_arr (off : Nat) (vs cs : Array Value) (h : off + vs.size ≤ cs.size) :
    vs.zipIdx.foldl (fun (cs : Array Value) (x : Value × Nat) => cs.setIfInBounds (off + x.2) x.1) cs = (laidOver cs.toList off vs.toList).toArray := by
  rw [← Array.foldl_toList, Array.toList_zipIdx]
  apply Array.toList_inj.1
  rw [foldl_set off vs.toList 0 cs (by simpa using h)]
  simp
def zMac : List Value := hcells zst z64 0 ++ hcells zst z64 0
theorem zMac_len : zMac.length = 146 := by rw [zMac, List.length_append, hcells_len zst z64 0 rfl]
theorem laid_two (z a b : List Value) (hz : z.length = 146) (ha : a.length = 73) (hb : b.length = 73) : laidOver (laidOver z 0 a) 73 b = a ++ b := by
  have h1 : laidOver z 0 a = a ++ z.drop 73 := by unfold laidOver; simp [ha]
  rw [h1]
  unfold laidOver
  rw [List.take_left' ha, List.drop_eq_nil_of_le (by simp [ha, hb, hz]), List.append_nil]
theorem fill_two (z a b : List Value) (hz : z.length = 146) (ha : a.length = 73) (hb : b.length = 73) :
    Instr.fill (fun i => ([(0, 73), (73, 73)] : List (Nat × Nat)).toArray[i]?) z.toArray [(0, .agg a.toArray), (1, .agg b.toArray)] = some (a ++ b).toArray := by
  have e1 := foldl_arr 0 a.toArray z.toArray (by simp [ha, hz])
  have hl : (laidOver z 0 a).length = 146 := by simp [laidOver, ha, hz]
  have e2 := foldl_arr 73 b.toArray (laidOver z 0 a).toArray (by rw [List.size_toArray, List.size_toArray, hb, hl]; decide)
  simp only at e1 e2
  rw [laid_two z a b hz ha hb] at e2
  unfold Instr.fill
  simp only [Value.cells]
  rw [show ([(0, 73), (73, 73)] : List (Nat × Nat)).toArray[0]? = some (0, 73) from rfl]
  simp only [List.size_toArray, ha, hz]
  rw [if_neg (by decide), e1]
  unfold Instr.fill
  simp only [Value.cells]
  rw [show ([(0, 73), (73, 73)] : List (Nat × Nat)).toArray[1]? = some (73, 73) from rfl]
  simp only [List.size_toArray, hb, hl]
  rw [if_neg (by decide), e2]
  rfl
theorem built_struct {P : Program} {t : TypeId} {it : TypeInfo} {z : Value} {places : List (Nat × Nat)} {fs : Array Field} (hi : P.info? t = some it) (hu : P.underlying t = some (.struct fs)) (hz : it.zero = some z)
    (hp : fs.toList.mapM (fun f => (P.info? f.type).map fun i => (f.offset, i.size)) = some places) (parts : List (Nat × Value)) : P.built t parts = Instr.fill (fun i => places.toArray[i]?) z.cells parts := by
  unfold Program.built
  simp only [hi, hu, hz, hp]
theorem infoMacZ : (Tryd.prog.info? 64).map (·.zero) = some (some (.agg zMac.toArray)) := by kernel_rfl
theorem placesMac : ∃ fs, Tryd.prog.underlying 64 = some (.struct fs) ∧ fs.toList.mapM (fun f => (Tryd.prog.info? f.type).map fun i => (f.offset, i.size)) = some [(0, 73), (73, 73)] := ⟨_, Tryd.underlying64, by kernel_rfl⟩
theorem built_mac (a b : List Value) (ha : a.length = 73) (hb : b.length = 73) (w : World) : (Instr.build 64 #[(0, .agg a.toArray), (1, .agg b.toArray)]).run Tryd.prog w = .ok (.agg (a ++ b).toArray) w := by
  refine run_build w 64 _ _ ?_
  obtain ⟨it, hi, hz⟩ := Option.map_eq_some_iff.1 infoMacZ
  obtain ⟨fs, hu, hp⟩ := placesMac
  rw [built_struct hi hu hz hp]
  exact fill_two zMac a b zMac_len ha hb

theorem step_run {P : Program} {ops : Array Oper} {o : Oper} {a : Act} {w : World} {K : Act → World → Prop} {Q : Exit → Act → World → Prop} {E : Prop} (hg : o.guard = none) (v : Value) (w' : World)
    (hr : (execOp a.eval o).run P w = .ok (.value v) w') (hK : K (a.put o.dst v) w') : if Region.wanted o (yielded ops a.tmps) = true then Oper.wp P o a w K Q else E := by
  rw [if_pos (by simp [Region.wanted, hg])]
  unfold Oper.wp
  rw [hr]
  exact hK
theorem run_build2 {P : Program} {a : Act} {o : Oper} {w : World} (t : TypeId) (x y : Operand) (h : o.op = .build t #[(0, x), (1, y)]) {u v r : Value} (hx : a.eval x = u) (hy : a.eval y = v) (hr : (Instr.build t #[(0, u), (1, v)]).run P w = .ok r w) : (execOp a.eval o).run P w = .ok (.value r) w := by
  subst hx hy
  simp [execOp, h, hr]
theorem run_box2 {P : Program} {a : Act} {o : Oper} {w : World} (t : TypeId) (x : Operand) (h : o.op = .box t x) {cs : Array Value} (hx : a.eval x = .agg cs) : (execOp a.eval o).run P w = .ok (.value (.pointer (some ⟨w.heap.size, 0, none⟩))) (w.alloc (.cells cs t)) := by
  simp [execOp, h, hx, Instr.box, newVar, newRow, Value.cells]
theorem run_assign {P : Program} {a : Act} {o : Oper} {w : World} (x : Operand) (h : o.op = .assign x) {v : Value} (hx : a.eval x = v) : (execOp a.eval o).run P w = .ok (.value v) w := by
  subst hx
  simp [execOp, h]

set_option maxRecDepth 100000 in
set_option maxHeartbeats 800000 in
theorem kbegin_short (key : ByteArray) (w : World) (hl : key.size ≤ 64) (hk : KTab w) (hH : HTab w) (h2 : 2 ≤ w.heap.size) :
    Calls Tryd.prog 24 #[.string key] w fun e w' => ∃ b, e = .returned (.pointer (some ⟨b, 0, none⟩)) ∧ w.heap.size ≤ b ∧ MRep w' b 64 key.data.toList [] ∧ Below w.heap.size w w' := by
  have hkl : key.data.toList.length = key.size := by rw [Array.length_toList]; rfl
  have hp1 := padL_short key.data.toList 0x36 (by omega)
  have hp2 := padL_short key.data.toList 0x5c (by omega)
  have HP1 := hide hp1
  have HP2 := hide hp2
  clear hp1 hp2 hkl
  have jl : ¬ (64 : Int) < (key.size : Int) := by omega
  go_enter Tryd.func24, Tryd.ntmps24
  go_wp2_with fail
  refine (begun_any key 0x36 _ hl hk hH h2).mono ?_
  rintro e w1 ⟨b1, rfl, hge1, hr1, hb1⟩
  have hk1 := hk.below hb1 h2
  have hH1 := hH.below hb1 h2
  have hs1 := hb1.size
  rw [← HP1.out] at hr1
  have hl1 := hr1.lt
  clear hk hH
  go_wp2_with fail
  refine (begun_any key 0x5c _ hl hk1 hH1 (by omega)).mono ?_
  rintro e w2 ⟨b2, rfl, hge2, hr2, hb2⟩
  have hr12 := hr1.below hb2 hl1
  rw [← HP2.out] at hr2
  have HB := hide (hb1.trans (hb2.mono hs1))
  have hge : w.heap.size ≤ w2.heap.size := by have := hb2.size; omega
  obtain ⟨k1, q1, q2, hB1⟩ := hr12
  obtain ⟨k2, q3, q4, hB2⟩ := hr2
  have r1 := hcells_range q1 hB1
  have r2 := hcells_range q3 hB2
  have n1 := hcells_len (Sha.comps (padL key.data.toList 0x36) ((padL key.data.toList 0x36).length / 64)) k1 (padL key.data.toList 0x36).length q1
  have n2 := hcells_len (Sha.comps (padL key.data.toList 0x5c) ((padL key.data.toList 0x5c).length / 64)) k2 (padL key.data.toList 0x5c).length q3
  have HM := hide (show ∀ w', Blk w' w2.heap.size 64 (hcells (Sha.comps (padL key.data.toList 0x36) ((padL key.data.toList 0x36).length / 64)) k1 (padL key.data.toList 0x36).length ++ hcells (Sha.comps (padL key.data.toList 0x5c) ((padL key.data.toList 0x5c).length / 64)) k2 (padL key.data.toList 0x5c).length) → MRep w' w2.heap.size 64 key.data.toList [] from fun w' hB => ⟨_, _, n1, n2, ⟨k1, q1, by simpa using q2, by simpa using hB⟩, ⟨k2, q3, q4, by simpa using hB⟩⟩)
  generalize hcells (Sha.comps (padL key.data.toList 0x36) ((padL key.data.toList 0x36).length / 64)) k1 (padL key.data.toList 0x36).length = ci at *
  generalize hcells (Sha.comps (padL key.data.toList 0x5c) ((padL key.data.toList 0x5c).length / 64)) k2 (padL key.data.toList 0x5c).length = co at *
  have hbd := built_mac ci co n1 n2
  have s1 : (Tryd.prog.info? 59).map (·.size) = some ci.length := by rw [infoHash, n1]
  have s2 : (Tryd.prog.info? 59).map (·.size) = some co.length := by rw [infoHash, n2]
  have R1 := hide r1
  have R2 := hide r2
  have S1 := hide s1
  have S2 := hide s2
  clear hk1 hH1 hr1 hb1 hb2 hB1 hB2 q1 q2 q3 q4 r1 r2 n1 n2 s1 s2 HP1 HP2 k1 k2
  have HBD := hide hbd
  clear hbd
  go_wp2
  rename_i K0 back
  refine wp_letter2 3 4 (fun A h3 h4 hz hd => ?_)
  have a3 : A.eval (.tmp 3) = .pointer (some ⟨b1, 0, none⟩) := h3
  have a4 : A.eval (.tmp 4) = .pointer (some ⟨b2, 0, none⟩) := h4
  have az : A.tmps.size = 22 := hz
  have ad : A.defers = [] := hd
  clear h3 h4 hz hd
  refine wp_region_any (by kernel_rfl) ?_
  change wpAny _ _ _ _ _ _ _ (World.drew _)
  refine wpAny_take (i := 0) (v := .pointer (some ⟨b1, 0, none⟩)) rfl (by kernel_rfl) (by kernel_rfl) (by kernel_rfl) (fun _ _ _ h => h) (Or.inl ⟨by rfl, fun w => ?_⟩) ?_
  · rw [run_move (.tmp 3) rfl, a3]
  change wpAny _ _ _ _ _ _ (Act.put _ (some 14) _) _
  have b14 : (A.put (some 14) (.pointer (some ⟨b1, 0, none⟩))).eval (.tmp 14) = .pointer (some ⟨b1, 0, none⟩) := Act.eval_same _ _ _ (by rw [az]; decide)
  have b4 : (A.put (some 14) (.pointer (some ⟨b1, 0, none⟩))).eval (.tmp 4) = .pointer (some ⟨b2, 0, none⟩) := (Act.eval_other _ _ _ _ (by decide)).trans a4
  have bz : (A.put (some 14) (.pointer (some ⟨b1, 0, none⟩))).tmps.size = 22 := by rw [Act.put_size, az]
  have bd : (A.put (some 14) (.pointer (some ⟨b1, 0, none⟩))).defers = [] := by rw [Act.put_defers', ad]
  generalize A.put (some 14) (.pointer (some ⟨b1, 0, none⟩)) = B at *
  clear a3 a4 az ad A
  refine wpAny_take (i := 1) (v := .pointer (some ⟨b1, 0, none⟩)) rfl (by kernel_rfl) (by kernel_rfl) (by kernel_rfl) (fun _ _ _ h => h) (Or.inl ⟨by rfl, fun w => ?_⟩) ?_
  · exact run_nilCheck (.tmp 14) _ rfl b14
  change wpAny _ _ _ _ _ _ (Act.put _ (some 15) _) _
  have c15 : (B.put (some 15) (.pointer (some ⟨b1, 0, none⟩))).eval (.tmp 15) = .pointer (some ⟨b1, 0, none⟩) := Act.eval_same _ _ _ (by rw [bz]; decide)
  have c4 : (B.put (some 15) (.pointer (some ⟨b1, 0, none⟩))).eval (.tmp 4) = .pointer (some ⟨b2, 0, none⟩) := (Act.eval_other _ _ _ _ (by decide)).trans b4
  have cz : (B.put (some 15) (.pointer (some ⟨b1, 0, none⟩))).tmps.size = 22 := by rw [Act.put_size, bz]
  have cd : (B.put (some 15) (.pointer (some ⟨b1, 0, none⟩))).defers = [] := by rw [Act.put_defers', bd]
  generalize B.put (some 15) (.pointer (some ⟨b1, 0, none⟩)) = C at *
  clear b14 b4 bz bd B
  refine wpAny_take (i := 3) (v := .pointer (some ⟨b2, 0, none⟩)) rfl (by kernel_rfl) (by kernel_rfl) (by kernel_rfl) (fun _ _ _ h => h) (Or.inl ⟨by rfl, fun w => ?_⟩) ?_
  · rw [run_move (.tmp 4) rfl, c4]
  change wpAny _ _ _ _ _ _ (Act.put _ (some 17) _) _
  have d15 : (C.put (some 17) (.pointer (some ⟨b2, 0, none⟩))).eval (.tmp 15) = .pointer (some ⟨b1, 0, none⟩) := (Act.eval_other _ _ _ _ (by decide)).trans c15
  have d17 : (C.put (some 17) (.pointer (some ⟨b2, 0, none⟩))).eval (.tmp 17) = .pointer (some ⟨b2, 0, none⟩) := Act.eval_same _ _ _ (by rw [cz]; decide)
  have dz : (C.put (some 17) (.pointer (some ⟨b2, 0, none⟩))).tmps.size = 22 := by rw [Act.put_size, cz]
  have dd : (C.put (some 17) (.pointer (some ⟨b2, 0, none⟩))).defers = [] := by rw [Act.put_defers', cd]
  generalize C.put (some 17) (.pointer (some ⟨b2, 0, none⟩)) = D at *
  clear c15 c4 cz cd C
  refine wpAny_take (i := 4) (v := .pointer (some ⟨b2, 0, none⟩)) rfl (by kernel_rfl) (by kernel_rfl) (by kernel_rfl) (fun _ _ _ h => h) (Or.inl ⟨by rfl, fun w => ?_⟩) ?_
  · exact run_nilCheck (.tmp 17) _ rfl d17
  change wpAny _ _ _ _ _ _ (Act.put _ (some 18) _) _
  have e15 : (D.put (some 18) (.pointer (some ⟨b2, 0, none⟩))).eval (.tmp 15) = .pointer (some ⟨b1, 0, none⟩) := (Act.eval_other _ _ _ _ (by decide)).trans d15
  have e18 : (D.put (some 18) (.pointer (some ⟨b2, 0, none⟩))).eval (.tmp 18) = .pointer (some ⟨b2, 0, none⟩) := Act.eval_same _ _ _ (by rw [dz]; decide)
  have ez : (D.put (some 18) (.pointer (some ⟨b2, 0, none⟩))).tmps.size = 22 := by rw [Act.put_size, dz]
  have ed : (D.put (some 18) (.pointer (some ⟨b2, 0, none⟩))).defers = [] := by rw [Act.put_defers', dd]
  generalize D.put (some 18) (.pointer (some ⟨b2, 0, none⟩)) = E at *
  clear d15 d17 dz dd D
  refine wpAny_ready (rs := [2, 5]) (by kernel_rfl) (by simp) ?_
  refine AllReady.cons rfl (fun K hK => ?_) (AllReady.cons rfl (fun K hK => ?_) AllReady.nil)
  · refine step_load_mid rfl 59 (.tmp 15) rfl b1 0 e15 ci _ R1.out Tryd.underlying59 rfl S1.out ?_
    refine hK _ _ ?_
    clear hK K
    change wpAny _ _ _ _ _ _ (Act.put _ (some 16) _) _
    have f16 : (E.put (some 16) (.agg ci.toArray)).eval (.tmp 16) = .agg ci.toArray := Act.eval_same _ _ _ (by rw [ez]; decide)
    have f18 : (E.put (some 16) (.agg ci.toArray)).eval (.tmp 18) = .pointer (some ⟨b2, 0, none⟩) := (Act.eval_other _ _ _ _ (by decide)).trans e18
    have fz : (E.put (some 16) (.agg ci.toArray)).tmps.size = 22 := by rw [Act.put_size, ez]
    have fd : (E.put (some 16) (.agg ci.toArray)).defers = [] := by rw [Act.put_defers', ed]
    generalize E.put (some 16) (.agg ci.toArray) = F at *
    clear e15 e18 ez ed E
    refine wpAny_ready (rs := [5]) (by kernel_rfl) (by simp) ?_
    refine AllReady.cons rfl (fun K hK => ?_) AllReady.nil
    refine step_load_mid rfl 59 (.tmp 18) rfl b2 0 f18 co _ R2.out Tryd.underlying59 rfl S2.out ?_
    refine hK _ _ ?_
    clear hK K
    change wpAny _ _ _ _ _ _ (Act.put _ (some 19) _) _
    have g16 : (F.put (some 19) (.agg co.toArray)).eval (.tmp 16) = .agg ci.toArray := (Act.eval_other _ _ _ _ (by decide)).trans f16
    have g19 : (F.put (some 19) (.agg co.toArray)).eval (.tmp 19) = .agg co.toArray := Act.eval_same _ _ _ (by rw [fz]; decide)
    have gz : (F.put (some 19) (.agg co.toArray)).tmps.size = 22 := by rw [Act.put_size, fz]
    have gd : (F.put (some 19) (.agg co.toArray)).defers = [] := by rw [Act.put_defers', fd]
    generalize F.put (some 19) (.agg co.toArray) = G at *
    clear f16 f18 fz fd F
    refine wpAny_ready (rs := [6]) (by kernel_rfl) (by simp) ?_
    refine AllReady.cons rfl (fun K hK => ?_) AllReady.nil
    refine step_run rfl (.agg (ci ++ co).toArray) _ (run_build2 64 (.tmp 16) (.tmp 19) rfl g16 g19 (HBD.out _)) ?_
    refine hK _ _ ?_
    clear hK K
    change wpAny _ _ _ _ _ _ (Act.put _ (some 20) _) _
    have i20 : (G.put (some 20) (.agg (ci ++ co).toArray)).eval (.tmp 20) = .agg (ci ++ co).toArray := Act.eval_same _ _ _ (by rw [gz]; decide)
    have iz : (G.put (some 20) (.agg (ci ++ co).toArray)).tmps.size = 22 := by rw [Act.put_size, gz]
    have id : (G.put (some 20) (.agg (ci ++ co).toArray)).defers = [] := by rw [Act.put_defers', gd]
    generalize G.put (some 20) (.agg (ci ++ co).toArray) = I at *
    clear g16 g19 gz gd G
    refine wpAny_ready (rs := [7]) (by kernel_rfl) (by simp) ?_
    refine AllReady.cons rfl (fun K hK => ?_) AllReady.nil
    refine step_run rfl (.pointer (some ⟨w2.heap.size, 0, none⟩)) (w2.drew.alloc (.cells (ci ++ co).toArray 64)) (run_box2 64 (.tmp 20) rfl i20) ?_
    refine hK _ _ ?_
    clear hK K
    change wpAny _ _ _ _ _ _ (Act.put _ (some 21) _) _
    have j21 : (I.put (some 21) (.pointer (some ⟨w2.heap.size, 0, none⟩))).eval (.tmp 21) = .pointer (some ⟨w2.heap.size, 0, none⟩) := Act.eval_same _ _ _ (by rw [iz]; decide)
    have jz : (I.put (some 21) (.pointer (some ⟨w2.heap.size, 0, none⟩))).tmps.size = 22 := by rw [Act.put_size, iz]
    have jd : (I.put (some 21) (.pointer (some ⟨w2.heap.size, 0, none⟩))).defers = [] := by rw [Act.put_defers', id]
    generalize I.put (some 21) (.pointer (some ⟨w2.heap.size, 0, none⟩)) = J at *
    clear i20 iz id I
    refine wpAny_ready (rs := [8]) (by kernel_rfl) (by simp) ?_
    refine AllReady.cons rfl (fun K hK => ?_) AllReady.nil
    refine step_run rfl (.pointer (some ⟨w2.heap.size, 0, none⟩)) _ (run_assign (.tmp 21) rfl j21) ?_
    refine hK _ _ ?_
    clear hK K
    change wpAny _ _ _ _ _ _ (Act.put _ (some 2) _) _
    have u2 : (J.put (some 2) (.pointer (some ⟨w2.heap.size, 0, none⟩))).eval (.tmp 2) = .pointer (some ⟨w2.heap.size, 0, none⟩) := Act.eval_same _ _ _ (by rw [jz]; decide)
    have uz : (J.put (some 2) (.pointer (some ⟨w2.heap.size, 0, none⟩))).tmps.size = 22 := by rw [Act.put_size, jz]
    have ud : (J.put (some 2) (.pointer (some ⟨w2.heap.size, 0, none⟩))).defers = [] := by rw [Act.put_defers', jd]
    generalize J.put (some 2) (.pointer (some ⟨w2.heap.size, 0, none⟩)) = U at *
    refine wpAny_done (by kernel_rfl) ?_ _
    refine back _ _ (wp_ret ?_)
    refine bodyPost_ret (results_tmp rfl _ _ _) ud ?_
    refine ⟨w2.heap.size, congrArg Ending.returned u2, hge, HM.out _ (Blk.new rfl rfl), HB.out.drew.alloc hge _⟩
  · refine step_load_mid rfl 59 (.tmp 18) rfl b2 0 e18 co _ R2.out Tryd.underlying59 rfl S2.out ?_
    refine hK _ _ ?_
    clear hK K
    change wpAny _ _ _ _ _ _ (Act.put _ (some 19) _) _
    have f19 : (E.put (some 19) (.agg co.toArray)).eval (.tmp 19) = .agg co.toArray := Act.eval_same _ _ _ (by rw [ez]; decide)
    have f15 : (E.put (some 19) (.agg co.toArray)).eval (.tmp 15) = .pointer (some ⟨b1, 0, none⟩) := (Act.eval_other _ _ _ _ (by decide)).trans e15
    have fz : (E.put (some 19) (.agg co.toArray)).tmps.size = 22 := by rw [Act.put_size, ez]
    have fd : (E.put (some 19) (.agg co.toArray)).defers = [] := by rw [Act.put_defers', ed]
    generalize E.put (some 19) (.agg co.toArray) = F at *
    clear e15 e18 ez ed E
    refine wpAny_ready (rs := [2]) (by kernel_rfl) (by simp) ?_
    refine AllReady.cons rfl (fun K hK => ?_) AllReady.nil
    refine step_load_mid rfl 59 (.tmp 15) rfl b1 0 f15 ci _ R1.out Tryd.underlying59 rfl S1.out ?_
    refine hK _ _ ?_
    clear hK K
    change wpAny _ _ _ _ _ _ (Act.put _ (some 16) _) _
    have g19 : (F.put (some 16) (.agg ci.toArray)).eval (.tmp 19) = .agg co.toArray := (Act.eval_other _ _ _ _ (by decide)).trans f19
    have g16 : (F.put (some 16) (.agg ci.toArray)).eval (.tmp 16) = .agg ci.toArray := Act.eval_same _ _ _ (by rw [fz]; decide)
    have gz : (F.put (some 16) (.agg ci.toArray)).tmps.size = 22 := by rw [Act.put_size, fz]
    have gd : (F.put (some 16) (.agg ci.toArray)).defers = [] := by rw [Act.put_defers', fd]
    generalize F.put (some 16) (.agg ci.toArray) = G at *
    clear f19 f15 fz fd F
    refine wpAny_ready (rs := [6]) (by kernel_rfl) (by simp) ?_
    refine AllReady.cons rfl (fun K hK => ?_) AllReady.nil
    refine step_run rfl (.agg (ci ++ co).toArray) _ (run_build2 64 (.tmp 16) (.tmp 19) rfl g16 g19 (HBD.out _)) ?_
    refine hK _ _ ?_
    clear hK K
    change wpAny _ _ _ _ _ _ (Act.put _ (some 20) _) _
    have i20 : (G.put (some 20) (.agg (ci ++ co).toArray)).eval (.tmp 20) = .agg (ci ++ co).toArray := Act.eval_same _ _ _ (by rw [gz]; decide)
    have iz : (G.put (some 20) (.agg (ci ++ co).toArray)).tmps.size = 22 := by rw [Act.put_size, gz]
    have id : (G.put (some 20) (.agg (ci ++ co).toArray)).defers = [] := by rw [Act.put_defers', gd]
    generalize G.put (some 20) (.agg (ci ++ co).toArray) = I at *
    clear g16 g19 gz gd G
    refine wpAny_ready (rs := [7]) (by kernel_rfl) (by simp) ?_
    refine AllReady.cons rfl (fun K hK => ?_) AllReady.nil
    refine step_run rfl (.pointer (some ⟨w2.heap.size, 0, none⟩)) (w2.drew.alloc (.cells (ci ++ co).toArray 64)) (run_box2 64 (.tmp 20) rfl i20) ?_
    refine hK _ _ ?_
    clear hK K
    change wpAny _ _ _ _ _ _ (Act.put _ (some 21) _) _
    have j21 : (I.put (some 21) (.pointer (some ⟨w2.heap.size, 0, none⟩))).eval (.tmp 21) = .pointer (some ⟨w2.heap.size, 0, none⟩) := Act.eval_same _ _ _ (by rw [iz]; decide)
    have jz : (I.put (some 21) (.pointer (some ⟨w2.heap.size, 0, none⟩))).tmps.size = 22 := by rw [Act.put_size, iz]
    have jd : (I.put (some 21) (.pointer (some ⟨w2.heap.size, 0, none⟩))).defers = [] := by rw [Act.put_defers', id]
    generalize I.put (some 21) (.pointer (some ⟨w2.heap.size, 0, none⟩)) = J at *
    clear i20 iz id I
    refine wpAny_ready (rs := [8]) (by kernel_rfl) (by simp) ?_
    refine AllReady.cons rfl (fun K hK => ?_) AllReady.nil
    refine step_run rfl (.pointer (some ⟨w2.heap.size, 0, none⟩)) _ (run_assign (.tmp 21) rfl j21) ?_
    refine hK _ _ ?_
    clear hK K
    change wpAny _ _ _ _ _ _ (Act.put _ (some 2) _) _
    have u2 : (J.put (some 2) (.pointer (some ⟨w2.heap.size, 0, none⟩))).eval (.tmp 2) = .pointer (some ⟨w2.heap.size, 0, none⟩) := Act.eval_same _ _ _ (by rw [jz]; decide)
    have uz : (J.put (some 2) (.pointer (some ⟨w2.heap.size, 0, none⟩))).tmps.size = 22 := by rw [Act.put_size, jz]
    have ud : (J.put (some 2) (.pointer (some ⟨w2.heap.size, 0, none⟩))).defers = [] := by rw [Act.put_defers', jd]
    generalize J.put (some 2) (.pointer (some ⟨w2.heap.size, 0, none⟩)) = U at *
    refine wpAny_done (by kernel_rfl) ?_ _
    refine back _ _ (wp_ret ?_)
    refine bodyPost_ret (results_tmp rfl _ _ _) ud ?_
    refine ⟨w2.heap.size, congrArg Ending.returned u2, hge, HM.out _ (Blk.new rfl rfl), HB.out.drew.alloc hge _⟩
set_option maxRecDepth 100000 in
set_option maxHeartbeats 800000 in
theorem kbegin_long (key0 : ByteArray) (w0 : World) (hl0 : 64 < key0.size) (hlb : key0.size < 2 ^ 59) (hk0 : KTab w0) (hH0 : HTab w0) (h20 : 2 ≤ w0.heap.size) :
    Calls Tryd.prog 24 #[.string key0] w0 fun e w' => ∃ b, e = .returned (.pointer (some ⟨b, 0, none⟩)) ∧ w0.heap.size ≤ b ∧ MRep w' b 64 key0.data.toList [] ∧ Below w0.heap.size w0 w' := by
  have hkl : key0.data.toList.length = key0.size := by rw [Array.length_toList]; rfl
  have hp1 := padL_long key0.data.toList 0x36 (by omega)
  have hp2 := padL_long key0.data.toList 0x5c (by omega)
  have href := shaSum_any key0 w0 hlb hk0 hH0 h20
  have hsl : (Sha.sum key0.data.toList).length = 32 := Sha.sum_len _
  generalize Sha.sum key0.data.toList = sm at *
  obtain ⟨key, hkey⟩ : ∃ key : ByteArray, key = ⟨sm.toArray⟩ := ⟨_, rfl⟩
  have hks : key.data.toList = sm := by rw [hkey]
  have hl : key.size ≤ 64 := by rw [hkey]; show sm.toArray.size ≤ 64; rw [List.size_toArray]; omega
  rw [← hkey] at href
  rw [← hks] at hp1 hp2
  have HP1 := hide hp1
  have HP2 := hide hp2
  have HREF := hide href
  clear hp1 hp2 hkl href hks hkey hsl
  have jl : (64 : Int) < (key0.size : Int) := by omega
  go_enter Tryd.func24, Tryd.ntmps24
  go_wp2_with fail
  refine HREF.out.mono ?_
  rintro e w ⟨rfl, hb0⟩
  have hk := hk0.below hb0 h20
  have hH := hH0.below hb0 h20
  have h2 : 2 ≤ w.heap.size := Nat.le_trans h20 hb0.size
  have HB0 := hide hb0
  clear hb0 hk0 hH0 HREF
  go_wp2_with fail
  refine (begun_any key 0x36 _ hl hk hH h2).mono ?_
  rintro e w1 ⟨b1, rfl, hge1, hr1, hb1⟩
  have hk1 := hk.below hb1 h2
  have hH1 := hH.below hb1 h2
  have hs1 := hb1.size
  rw [← HP1.out] at hr1
  have hl1 := hr1.lt
  clear hk hH
  go_wp2_with fail
  refine (begun_any key 0x5c _ hl hk1 hH1 (by omega)).mono ?_
  rintro e w2 ⟨b2, rfl, hge2, hr2, hb2⟩
  have hr12 := hr1.below hb2 hl1
  rw [← HP2.out] at hr2
  have HB := hide (HB0.out.trans ((hb1.trans (hb2.mono hs1)).mono HB0.out.size))
  have hge : w0.heap.size ≤ w2.heap.size := by have := hb2.size; have := HB0.out.size; omega
  obtain ⟨k1, q1, q2, hB1⟩ := hr12
  obtain ⟨k2, q3, q4, hB2⟩ := hr2
  have r1 := hcells_range q1 hB1
  have r2 := hcells_range q3 hB2
  have n1 := hcells_len (Sha.comps (padL key0.data.toList 0x36) ((padL key0.data.toList 0x36).length / 64)) k1 (padL key0.data.toList 0x36).length q1
  have n2 := hcells_len (Sha.comps (padL key0.data.toList 0x5c) ((padL key0.data.toList 0x5c).length / 64)) k2 (padL key0.data.toList 0x5c).length q3
  have HM := hide (show ∀ w', Blk w' w2.heap.size 64 (hcells (Sha.comps (padL key0.data.toList 0x36) ((padL key0.data.toList 0x36).length / 64)) k1 (padL key0.data.toList 0x36).length ++ hcells (Sha.comps (padL key0.data.toList 0x5c) ((padL key0.data.toList 0x5c).length / 64)) k2 (padL key0.data.toList 0x5c).length) → MRep w' w2.heap.size 64 key0.data.toList [] from fun w' hB => ⟨_, _, n1, n2, ⟨k1, q1, by simpa using q2, by simpa using hB⟩, ⟨k2, q3, q4, by simpa using hB⟩⟩)
  generalize hcells (Sha.comps (padL key0.data.toList 0x36) ((padL key0.data.toList 0x36).length / 64)) k1 (padL key0.data.toList 0x36).length = ci at *
  generalize hcells (Sha.comps (padL key0.data.toList 0x5c) ((padL key0.data.toList 0x5c).length / 64)) k2 (padL key0.data.toList 0x5c).length = co at *
  have hbd := built_mac ci co n1 n2
  have s1 : (Tryd.prog.info? 59).map (·.size) = some ci.length := by rw [infoHash, n1]
  have s2 : (Tryd.prog.info? 59).map (·.size) = some co.length := by rw [infoHash, n2]
  have R1 := hide r1
  have R2 := hide r2
  have S1 := hide s1
  have S2 := hide s2
  clear hk1 hH1 hr1 hb1 hb2 hB1 hB2 q1 q2 q3 q4 r1 r2 n1 n2 s1 s2 HP1 HP2 k1 k2
  have HBD := hide hbd
  clear hbd
  go_wp2
  rename_i K0 back
  refine wp_letter2 3 4 (fun A h3 h4 hz hd => ?_)
  have a3 : A.eval (.tmp 3) = .pointer (some ⟨b1, 0, none⟩) := h3
  have a4 : A.eval (.tmp 4) = .pointer (some ⟨b2, 0, none⟩) := h4
  have az : A.tmps.size = 22 := hz
  have ad : A.defers = [] := hd
  clear h3 h4 hz hd
  refine wp_region_any (by kernel_rfl) ?_
  change wpAny _ _ _ _ _ _ _ (World.drew _)
  refine wpAny_take (i := 0) (v := .pointer (some ⟨b1, 0, none⟩)) rfl (by kernel_rfl) (by kernel_rfl) (by kernel_rfl) (fun _ _ _ h => h) (Or.inl ⟨by rfl, fun w => ?_⟩) ?_
  · rw [run_move (.tmp 3) rfl, a3]
  change wpAny _ _ _ _ _ _ (Act.put _ (some 14) _) _
  have b14 : (A.put (some 14) (.pointer (some ⟨b1, 0, none⟩))).eval (.tmp 14) = .pointer (some ⟨b1, 0, none⟩) := Act.eval_same _ _ _ (by rw [az]; decide)
  have b4 : (A.put (some 14) (.pointer (some ⟨b1, 0, none⟩))).eval (.tmp 4) = .pointer (some ⟨b2, 0, none⟩) := (Act.eval_other _ _ _ _ (by decide)).trans a4
  have bz : (A.put (some 14) (.pointer (some ⟨b1, 0, none⟩))).tmps.size = 22 := by rw [Act.put_size, az]
  have bd : (A.put (some 14) (.pointer (some ⟨b1, 0, none⟩))).defers = [] := by rw [Act.put_defers', ad]
  generalize A.put (some 14) (.pointer (some ⟨b1, 0, none⟩)) = B at *
  clear a3 a4 az ad A
  refine wpAny_take (i := 1) (v := .pointer (some ⟨b1, 0, none⟩)) rfl (by kernel_rfl) (by kernel_rfl) (by kernel_rfl) (fun _ _ _ h => h) (Or.inl ⟨by rfl, fun w => ?_⟩) ?_
  · exact run_nilCheck (.tmp 14) _ rfl b14
  change wpAny _ _ _ _ _ _ (Act.put _ (some 15) _) _
  have c15 : (B.put (some 15) (.pointer (some ⟨b1, 0, none⟩))).eval (.tmp 15) = .pointer (some ⟨b1, 0, none⟩) := Act.eval_same _ _ _ (by rw [bz]; decide)
  have c4 : (B.put (some 15) (.pointer (some ⟨b1, 0, none⟩))).eval (.tmp 4) = .pointer (some ⟨b2, 0, none⟩) := (Act.eval_other _ _ _ _ (by decide)).trans b4
  have cz : (B.put (some 15) (.pointer (some ⟨b1, 0, none⟩))).tmps.size = 22 := by rw [Act.put_size, bz]
  have cd : (B.put (some 15) (.pointer (some ⟨b1, 0, none⟩))).defers = [] := by rw [Act.put_defers', bd]
  generalize B.put (some 15) (.pointer (some ⟨b1, 0, none⟩)) = C at *
  clear b14 b4 bz bd B
  refine wpAny_take (i := 3) (v := .pointer (some ⟨b2, 0, none⟩)) rfl (by kernel_rfl) (by kernel_rfl) (by kernel_rfl) (fun _ _ _ h => h) (Or.inl ⟨by rfl, fun w => ?_⟩) ?_
  · rw [run_move (.tmp 4) rfl, c4]
  change wpAny _ _ _ _ _ _ (Act.put _ (some 17) _) _
  have d15 : (C.put (some 17) (.pointer (some ⟨b2, 0, none⟩))).eval (.tmp 15) = .pointer (some ⟨b1, 0, none⟩) := (Act.eval_other _ _ _ _ (by decide)).trans c15
  have d17 : (C.put (some 17) (.pointer (some ⟨b2, 0, none⟩))).eval (.tmp 17) = .pointer (some ⟨b2, 0, none⟩) := Act.eval_same _ _ _ (by rw [cz]; decide)
  have dz : (C.put (some 17) (.pointer (some ⟨b2, 0, none⟩))).tmps.size = 22 := by rw [Act.put_size, cz]
  have dd : (C.put (some 17) (.pointer (some ⟨b2, 0, none⟩))).defers = [] := by rw [Act.put_defers', cd]
  generalize C.put (some 17) (.pointer (some ⟨b2, 0, none⟩)) = D at *
  clear c15 c4 cz cd C
  refine wpAny_take (i := 4) (v := .pointer (some ⟨b2, 0, none⟩)) rfl (by kernel_rfl) (by kernel_rfl) (by kernel_rfl) (fun _ _ _ h => h) (Or.inl ⟨by rfl, fun w => ?_⟩) ?_
  · exact run_nilCheck (.tmp 17) _ rfl d17
  change wpAny _ _ _ _ _ _ (Act.put _ (some 18) _) _
  have e15 : (D.put (some 18) (.pointer (some ⟨b2, 0, none⟩))).eval (.tmp 15) = .pointer (some ⟨b1, 0, none⟩) := (Act.eval_other _ _ _ _ (by decide)).trans d15
  have e18 : (D.put (some 18) (.pointer (some ⟨b2, 0, none⟩))).eval (.tmp 18) = .pointer (some ⟨b2, 0, none⟩) := Act.eval_same _ _ _ (by rw [dz]; decide)
  have ez : (D.put (some 18) (.pointer (some ⟨b2, 0, none⟩))).tmps.size = 22 := by rw [Act.put_size, dz]
  have ed : (D.put (some 18) (.pointer (some ⟨b2, 0, none⟩))).defers = [] := by rw [Act.put_defers', dd]
  generalize D.put (some 18) (.pointer (some ⟨b2, 0, none⟩)) = E at *
  clear d15 d17 dz dd D
  refine wpAny_ready (rs := [2, 5]) (by kernel_rfl) (by simp) ?_
  refine AllReady.cons rfl (fun K hK => ?_) (AllReady.cons rfl (fun K hK => ?_) AllReady.nil)
  · refine step_load_mid rfl 59 (.tmp 15) rfl b1 0 e15 ci _ R1.out Tryd.underlying59 rfl S1.out ?_
    refine hK _ _ ?_
    clear hK K
    change wpAny _ _ _ _ _ _ (Act.put _ (some 16) _) _
    have f16 : (E.put (some 16) (.agg ci.toArray)).eval (.tmp 16) = .agg ci.toArray := Act.eval_same _ _ _ (by rw [ez]; decide)
    have f18 : (E.put (some 16) (.agg ci.toArray)).eval (.tmp 18) = .pointer (some ⟨b2, 0, none⟩) := (Act.eval_other _ _ _ _ (by decide)).trans e18
    have fz : (E.put (some 16) (.agg ci.toArray)).tmps.size = 22 := by rw [Act.put_size, ez]
    have fd : (E.put (some 16) (.agg ci.toArray)).defers = [] := by rw [Act.put_defers', ed]
    generalize E.put (some 16) (.agg ci.toArray) = F at *
    clear e15 e18 ez ed E
    refine wpAny_ready (rs := [5]) (by kernel_rfl) (by simp) ?_
    refine AllReady.cons rfl (fun K hK => ?_) AllReady.nil
    refine step_load_mid rfl 59 (.tmp 18) rfl b2 0 f18 co _ R2.out Tryd.underlying59 rfl S2.out ?_
    refine hK _ _ ?_
    clear hK K
    change wpAny _ _ _ _ _ _ (Act.put _ (some 19) _) _
    have g16 : (F.put (some 19) (.agg co.toArray)).eval (.tmp 16) = .agg ci.toArray := (Act.eval_other _ _ _ _ (by decide)).trans f16
    have g19 : (F.put (some 19) (.agg co.toArray)).eval (.tmp 19) = .agg co.toArray := Act.eval_same _ _ _ (by rw [fz]; decide)
    have gz : (F.put (some 19) (.agg co.toArray)).tmps.size = 22 := by rw [Act.put_size, fz]
    have gd : (F.put (some 19) (.agg co.toArray)).defers = [] := by rw [Act.put_defers', fd]
    generalize F.put (some 19) (.agg co.toArray) = G at *
    clear f16 f18 fz fd F
    refine wpAny_ready (rs := [6]) (by kernel_rfl) (by simp) ?_
    refine AllReady.cons rfl (fun K hK => ?_) AllReady.nil
    refine step_run rfl (.agg (ci ++ co).toArray) _ (run_build2 64 (.tmp 16) (.tmp 19) rfl g16 g19 (HBD.out _)) ?_
    refine hK _ _ ?_
    clear hK K
    change wpAny _ _ _ _ _ _ (Act.put _ (some 20) _) _
    have i20 : (G.put (some 20) (.agg (ci ++ co).toArray)).eval (.tmp 20) = .agg (ci ++ co).toArray := Act.eval_same _ _ _ (by rw [gz]; decide)
    have iz : (G.put (some 20) (.agg (ci ++ co).toArray)).tmps.size = 22 := by rw [Act.put_size, gz]
    have id : (G.put (some 20) (.agg (ci ++ co).toArray)).defers = [] := by rw [Act.put_defers', gd]
    generalize G.put (some 20) (.agg (ci ++ co).toArray) = I at *
    clear g16 g19 gz gd G
    refine wpAny_ready (rs := [7]) (by kernel_rfl) (by simp) ?_
    refine AllReady.cons rfl (fun K hK => ?_) AllReady.nil
    refine step_run rfl (.pointer (some ⟨w2.heap.size, 0, none⟩)) (w2.drew.alloc (.cells (ci ++ co).toArray 64)) (run_box2 64 (.tmp 20) rfl i20) ?_
    refine hK _ _ ?_
    clear hK K
    change wpAny _ _ _ _ _ _ (Act.put _ (some 21) _) _
    have j21 : (I.put (some 21) (.pointer (some ⟨w2.heap.size, 0, none⟩))).eval (.tmp 21) = .pointer (some ⟨w2.heap.size, 0, none⟩) := Act.eval_same _ _ _ (by rw [iz]; decide)
    have jz : (I.put (some 21) (.pointer (some ⟨w2.heap.size, 0, none⟩))).tmps.size = 22 := by rw [Act.put_size, iz]
    have jd : (I.put (some 21) (.pointer (some ⟨w2.heap.size, 0, none⟩))).defers = [] := by rw [Act.put_defers', id]
    generalize I.put (some 21) (.pointer (some ⟨w2.heap.size, 0, none⟩)) = J at *
    clear i20 iz id I
    refine wpAny_ready (rs := [8]) (by kernel_rfl) (by simp) ?_
    refine AllReady.cons rfl (fun K hK => ?_) AllReady.nil
    refine step_run rfl (.pointer (some ⟨w2.heap.size, 0, none⟩)) _ (run_assign (.tmp 21) rfl j21) ?_
    refine hK _ _ ?_
    clear hK K
    change wpAny _ _ _ _ _ _ (Act.put _ (some 2) _) _
    have u2 : (J.put (some 2) (.pointer (some ⟨w2.heap.size, 0, none⟩))).eval (.tmp 2) = .pointer (some ⟨w2.heap.size, 0, none⟩) := Act.eval_same _ _ _ (by rw [jz]; decide)
    have uz : (J.put (some 2) (.pointer (some ⟨w2.heap.size, 0, none⟩))).tmps.size = 22 := by rw [Act.put_size, jz]
    have ud : (J.put (some 2) (.pointer (some ⟨w2.heap.size, 0, none⟩))).defers = [] := by rw [Act.put_defers', jd]
    generalize J.put (some 2) (.pointer (some ⟨w2.heap.size, 0, none⟩)) = U at *
    refine wpAny_done (by kernel_rfl) ?_ _
    refine back _ _ (wp_ret ?_)
    refine bodyPost_ret (results_tmp rfl _ _ _) ud ?_
    refine ⟨w2.heap.size, congrArg Ending.returned u2, hge, HM.out _ (Blk.new rfl rfl), HB.out.drew.alloc hge _⟩
  · refine step_load_mid rfl 59 (.tmp 18) rfl b2 0 e18 co _ R2.out Tryd.underlying59 rfl S2.out ?_
    refine hK _ _ ?_
    clear hK K
    change wpAny _ _ _ _ _ _ (Act.put _ (some 19) _) _
    have f19 : (E.put (some 19) (.agg co.toArray)).eval (.tmp 19) = .agg co.toArray := Act.eval_same _ _ _ (by rw [ez]; decide)
    have f15 : (E.put (some 19) (.agg co.toArray)).eval (.tmp 15) = .pointer (some ⟨b1, 0, none⟩) := (Act.eval_other _ _ _ _ (by decide)).trans e15
    have fz : (E.put (some 19) (.agg co.toArray)).tmps.size = 22 := by rw [Act.put_size, ez]
    have fd : (E.put (some 19) (.agg co.toArray)).defers = [] := by rw [Act.put_defers', ed]
    generalize E.put (some 19) (.agg co.toArray) = F at *
    clear e15 e18 ez ed E
    refine wpAny_ready (rs := [2]) (by kernel_rfl) (by simp) ?_
    refine AllReady.cons rfl (fun K hK => ?_) AllReady.nil
    refine step_load_mid rfl 59 (.tmp 15) rfl b1 0 f15 ci _ R1.out Tryd.underlying59 rfl S1.out ?_
    refine hK _ _ ?_
    clear hK K
    change wpAny _ _ _ _ _ _ (Act.put _ (some 16) _) _
    have g19 : (F.put (some 16) (.agg ci.toArray)).eval (.tmp 19) = .agg co.toArray := (Act.eval_other _ _ _ _ (by decide)).trans f19
    have g16 : (F.put (some 16) (.agg ci.toArray)).eval (.tmp 16) = .agg ci.toArray := Act.eval_same _ _ _ (by rw [fz]; decide)
    have gz : (F.put (some 16) (.agg ci.toArray)).tmps.size = 22 := by rw [Act.put_size, fz]
    have gd : (F.put (some 16) (.agg ci.toArray)).defers = [] := by rw [Act.put_defers', fd]
    generalize F.put (some 16) (.agg ci.toArray) = G at *
    clear f19 f15 fz fd F
    refine wpAny_ready (rs := [6]) (by kernel_rfl) (by simp) ?_
    refine AllReady.cons rfl (fun K hK => ?_) AllReady.nil
    refine step_run rfl (.agg (ci ++ co).toArray) _ (run_build2 64 (.tmp 16) (.tmp 19) rfl g16 g19 (HBD.out _)) ?_
    refine hK _ _ ?_
    clear hK K
    change wpAny _ _ _ _ _ _ (Act.put _ (some 20) _) _
    have i20 : (G.put (some 20) (.agg (ci ++ co).toArray)).eval (.tmp 20) = .agg (ci ++ co).toArray := Act.eval_same _ _ _ (by rw [gz]; decide)
    have iz : (G.put (some 20) (.agg (ci ++ co).toArray)).tmps.size = 22 := by rw [Act.put_size, gz]
    have id : (G.put (some 20) (.agg (ci ++ co).toArray)).defers = [] := by rw [Act.put_defers', gd]
    generalize G.put (some 20) (.agg (ci ++ co).toArray) = I at *
    clear g16 g19 gz gd G
    refine wpAny_ready (rs := [7]) (by kernel_rfl) (by simp) ?_
    refine AllReady.cons rfl (fun K hK => ?_) AllReady.nil
    refine step_run rfl (.pointer (some ⟨w2.heap.size, 0, none⟩)) (w2.drew.alloc (.cells (ci ++ co).toArray 64)) (run_box2 64 (.tmp 20) rfl i20) ?_
    refine hK _ _ ?_
    clear hK K
    change wpAny _ _ _ _ _ _ (Act.put _ (some 21) _) _
    have j21 : (I.put (some 21) (.pointer (some ⟨w2.heap.size, 0, none⟩))).eval (.tmp 21) = .pointer (some ⟨w2.heap.size, 0, none⟩) := Act.eval_same _ _ _ (by rw [iz]; decide)
    have jz : (I.put (some 21) (.pointer (some ⟨w2.heap.size, 0, none⟩))).tmps.size = 22 := by rw [Act.put_size, iz]
    have jd : (I.put (some 21) (.pointer (some ⟨w2.heap.size, 0, none⟩))).defers = [] := by rw [Act.put_defers', id]
    generalize I.put (some 21) (.pointer (some ⟨w2.heap.size, 0, none⟩)) = J at *
    clear i20 iz id I
    refine wpAny_ready (rs := [8]) (by kernel_rfl) (by simp) ?_
    refine AllReady.cons rfl (fun K hK => ?_) AllReady.nil
    refine step_run rfl (.pointer (some ⟨w2.heap.size, 0, none⟩)) _ (run_assign (.tmp 21) rfl j21) ?_
    refine hK _ _ ?_
    clear hK K
    change wpAny _ _ _ _ _ _ (Act.put _ (some 2) _) _
    have u2 : (J.put (some 2) (.pointer (some ⟨w2.heap.size, 0, none⟩))).eval (.tmp 2) = .pointer (some ⟨w2.heap.size, 0, none⟩) := Act.eval_same _ _ _ (by rw [jz]; decide)
    have uz : (J.put (some 2) (.pointer (some ⟨w2.heap.size, 0, none⟩))).tmps.size = 22 := by rw [Act.put_size, jz]
    have ud : (J.put (some 2) (.pointer (some ⟨w2.heap.size, 0, none⟩))).defers = [] := by rw [Act.put_defers', jd]
    generalize J.put (some 2) (.pointer (some ⟨w2.heap.size, 0, none⟩)) = U at *
    refine wpAny_done (by kernel_rfl) ?_ _
    refine back _ _ (wp_ret ?_)
    refine bodyPost_ret (results_tmp rfl _ _ _) ud ?_
    refine ⟨w2.heap.size, congrArg Ending.returned u2, hge, HM.out _ (Blk.new rfl rfl), HB.out.drew.alloc hge _⟩

theorem kbegin_any (key : ByteArray) (w : World) (hl : key.size < 2 ^ 59) (hk : KTab w) (hH : HTab w) (h2 : 2 ≤ w.heap.size) :
    Calls Tryd.prog 24 #[.string key] w fun e w' => ∃ b, e = .returned (.pointer (some ⟨b, 0, none⟩)) ∧ w.heap.size ≤ b ∧ MRep w' b 64 key.data.toList [] ∧ Below w.heap.size w w' := by
  by_cases h : 64 < key.size
  · exact kbegin_long key w h hl hk hH h2
  · exact kbegin_short key w (by omega) hk hH h2
end Go.Proofs.YtpogfcfgbnccjaaDoor
namespace Go.Proofs.YtpogfcfgbnccjaaDoor
open Go.RowKit

theorem MRep.lt' {w : World} {b : Nat} {t : TypeId} {key l : List UInt8} (h : MRep w b t key l) : b < w.heap.size := by
  obtain ⟨_, _, _, _, h, _⟩ := h
  exact h.lt
theorem MRep.below' {w w' : World} {b : Nat} {t : TypeId} {key l : List UInt8} (h : MRep w b t key l) {B : Nat} (hb : Below B w w') (hB : b < B) : MRep w' b t key l := by
  obtain ⟨ci, co, h1, h2, h3, h4⟩ := h
  exact ⟨ci, co, h1, h2, h3.below hb hB, h4.below hb hB⟩
theorem blk_inj {w : World} {b : Nat} {t : TypeId} {c d : List Value} (h : Blk w b t c) (h' : Blk w b t d) : c = d := by
  unfold Blk at h h'
  rw [h] at h'
  injection h' with e
  injection e with e _ _
  exact congrArg Array.toList e
/-- The mac's two halves are one block. -/
theorem MRep.same {w : World} {b : Nat} {t : TypeId} {key l : List UInt8} (h : MRep w b t key l) : ∃ s k s' k', k.length = 64 ∧ k'.length = 64 ∧
    s = Sha.comps (padL key 0x36 ++ l) ((padL key 0x36 ++ l).length / 64) ∧ k.take ((padL key 0x36 ++ l).length % 64) = (padL key 0x36 ++ l).drop (64 * ((padL key 0x36 ++ l).length / 64)) ∧
    s' = Sha.comps (padL key 0x5c) ((padL key 0x5c).length / 64) ∧ k'.take ((padL key 0x5c).length % 64) = (padL key 0x5c).drop (64 * ((padL key 0x5c).length / 64)) ∧
    Blk w b t (hcells s k (padL key 0x36 ++ l).length ++ hcells s' k' (padL key 0x5c).length) := by
  obtain ⟨ci, co, h1, h2, ⟨k, hk, ht, hB⟩, ⟨k', hk', ht', hB'⟩⟩ := h
  refine ⟨_, k, _, k', hk, hk', rfl, ht, rfl, ht', ?_⟩
  have e : hcells (Sha.comps (padL key 0x36 ++ l) ((padL key 0x36 ++ l).length / 64)) k (padL key 0x36 ++ l).length ++ co = ci ++ hcells (Sha.comps (padL key 0x5c) ((padL key 0x5c).length / 64)) k' (padL key 0x5c).length := by
    simpa using blk_inj hB hB'
  have hl := List.append_inj e (by rw [hcells_len _ _ _ hk, h1])
  rw [← hl.2]
  simpa using hB

set_option maxRecDepth 100000 in
set_option maxHeartbeats 800000 in
theorem kwrite_any (b : Nat) (key l : List UInt8) (s : ByteArray) (w : World) (hn : l.length + s.size < 2 ^ 60) (hb : MRep w b 64 key l) (hk : KTab w) (h2 : 2 ≤ b) :
    Calls Tryd.prog 25 #[.pointer (some ⟨b, 0, none⟩), .string s] w fun e w' => e = .returned (.tuple #[]) ∧ MRep w' b 64 key (l ++ s.data.toList) ∧ w.grownBy w' (some b) := by
  obtain ⟨st, k, st', k', q1, q2, q3, q4, q5, q6, hB⟩ := hb.same
  have hpl := padL_len key 0x36
  have hr : HRep w b 64 [] (hcells st' k' (padL key 0x5c).length) (padL key 0x36 ++ l) := ⟨k, q1, q4, by rw [← q3]; simpa using hB⟩
  have HW := hide (hwrite_any b 64 [] (hcells st' k' (padL key 0x5c).length) (padL key 0x36 ++ l) s w (by rw [List.length_append, hpl]; omega) hr hk h2)
  have HF := hide (show ∀ w', HRep w' b 64 [] (hcells st' k' (padL key 0x5c).length) (padL key 0x36 ++ l ++ s.data.toList) → MRep w' b 64 key (l ++ s.data.toList) from fun w' h => by
    obtain ⟨kk, r1, r2, r3⟩ := h
    have hcl := hcells_len (Sha.comps (padL key 0x36 ++ l ++ s.data.toList) ((padL key 0x36 ++ l ++ s.data.toList).length / 64)) kk (padL key 0x36 ++ l ++ s.data.toList).length r1
    refine ⟨_, hcells st' k' (padL key 0x5c).length, hcl, hcells_len _ _ _ q2, ⟨kk, r1, by rw [← List.append_assoc]; exact r2, by rw [← List.append_assoc]; exact r3⟩, ⟨k', q2, q6, by rw [← q5]; simpa using r3⟩⟩)
  clear hb q1 q2 q3 q4 q5 q6 hB hpl hr hk
  go_enter Tryd.func25, Tryd.ntmps25
  go_wp2_with fail
  refine HW.out.mono ?_
  rintro e w1 ⟨rfl, h1, h3⟩
  have H1 := hide (HF.out _ h1)
  have H3 := hide h3
  clear h1 h3
  go_wp2
  go_end0
  exact ⟨rfl, H1.out, H3.out⟩

/-- The HMAC. -/
def macL (key l : List UInt8) : List UInt8 := Sha.sum (padL key 0x5c ++ Sha.sum (padL key 0x36 ++ l))
theorem macL_len (key l : List UInt8) : (macL key l).length = 32 := Sha.sum_len _

set_option maxRecDepth 100000 in
set_option maxHeartbeats 800000 in
theorem ksum_any (b : Nat) (key l : List UInt8) (w : World) (hn : l.length < 2 ^ 58) (hb : MRep w b 64 key l) (hk : KTab w) (h2 : 2 ≤ w.heap.size) :
    Calls Tryd.prog 26 #[.pointer (some ⟨b, 0, none⟩)] w fun e w' => e = .returned (.string ⟨(macL key l).toArray⟩) ∧ Below w.heap.size w w' := by
  have hbl := hb.lt'
  obtain ⟨ci, co, n1, n2, hr1, hr2⟩ := hb
  have hp1 := padL_len key 0x36
  have hp2 := padL_len key 0x5c
  have H1 := hide (hsum_any b 64 [] co (padL key 0x36 ++ l) w (by rw [List.length_append, hp1]; omega) hr1 hk h2)
  have hs1 := Sha.sum_len (padL key 0x36 ++ l)
  have hdef : macL key l = Sha.sum (padL key 0x5c ++ Sha.sum (padL key 0x36 ++ l)) := rfl
  generalize Sha.sum (padL key 0x36 ++ l) = hh at *
  obtain ⟨hs, hhs⟩ : ∃ hs : ByteArray, hs = ⟨hh.toArray⟩ := ⟨_, rfl⟩
  have hhl : hs.data.toList = hh := by rw [hhs]
  have hhz : hs.size = 32 := by rw [hhs]; show hh.toArray.size = 32; rw [List.size_toArray]; exact hs1
  rw [← hhs] at H1
  rw [← hhl] at hdef
  generalize padL key 0x5c = po at *
  have HD := hide hdef
  have HR2 := hide hr2
  have HP2 := hide hp2
  clear hr1 hr2 hp1 hp2 hs1 hhs hhl hdef n2
  go_enter Tryd.func26, Tryd.ntmps26
  go_wp2_with fail
  refine H1.out.mono ?_
  rintro e w1 ⟨rfl, hb1⟩
  have hcp := copy_any b 64 ci [] po w1 (HR2.out.below hb1 hbl)
  rw [n1] at hcp
  have HCP := hide hcp
  have hk1 := hk.below hb1 h2
  have h21 : 2 ≤ w1.heap.size := Nat.le_trans h2 hb1.size
  have HB1 := hide hb1
  clear hb1 hcp hk H1
  go_wp2_with fail
  refine HCP.out.mono ?_
  rintro e w2 ⟨rfl, hr, hb2⟩
  have hk2 := hk1.below hb2 h21
  have hl2 := hr.lt
  have HW := hide (hwrite_any w1.heap.size 59 [] [] po hs w2 (by rw [HP2.out, hhz]; decide) hr hk2 h21)
  have HB2 := hide (HB1.out.trans (hb2.mono HB1.out.size))
  have hge : w.heap.size ≤ w1.heap.size := HB1.out.size
  clear hr hb2 hk1 HCP HB1
  generalize w1.heap.size = nb at *
  go_wp2_with fail
  refine HW.out.mono ?_
  rintro e w3 ⟨rfl, hr3, hg3⟩
  have hb3 : Below w.heap.size w w3 := HB2.out.trans (RowKit.Below.of_grown hg3 hge (by omega))
  have hb23 : Below nb w2 w3 := RowKit.Below.of_grown hg3 (Nat.le_refl _) (by omega)
  have hk3 := hk2.below hb23 h21
  have hsz3 := hr3.lt
  have HS := hide (hsum_any nb 59 [] [] (po ++ hs.data.toList) w3 (by rw [List.length_append, HP2.out, Array.length_toList, show hs.data.size = hs.size from rfl, hhz]; decide) hr3 hk3 (by omega))
  rw [← HD.out] at HS
  have HB3 := hide hb3
  clear hr3 hg3 hb3 hb23 hk2 hk3 HB2 HW
  go_wp2_with fail
  refine HS.out.mono ?_
  rintro e w4 ⟨rfl, hb4⟩
  have HB4 := hide (HB3.out.trans (hb4.mono HB3.out.size))
  clear hb4
  go_wp2
  go_ret
  exact ⟨rfl, HB4.out⟩

set_option maxRecDepth 100000 in
set_option maxHeartbeats 800000 in
theorem hmac_any (key text : ByteArray) (w : World) (hkey : key.size < 2 ^ 57) (htext : text.size < 2 ^ 57) (hk : KTab w) (hH : HTab w) (h2 : 2 ≤ w.heap.size) :
    Calls Tryd.prog 11 #[.string key, .string text] w fun e w' => e = .returned (.string ⟨(macL key.data.toList text.data.toList).toArray⟩) ∧ Below w.heap.size w w' := by
  have H1 := hide (kbegin_any key w (by omega) hk hH h2)
  have htl : text.data.toList.length = text.size := by rw [Array.length_toList]; rfl
  have HTL := hide htl
  clear htl
  go_enter Tryd.func11, Tryd.ntmps11
  go_wp2_with fail
  refine H1.out.mono ?_
  rintro e w1 ⟨b, rfl, hge, hm1, hb1⟩
  have hk1 := hk.below hb1 h2
  have hl1 := hm1.lt'
  have HW := hide (kwrite_any b key.data.toList [] text w1 (by show 0 + text.size < 2 ^ 60; omega) hm1 hk1 (by omega))
  have HB1 := hide hb1
  clear hm1 hb1 hk hH H1
  go_wp2_with fail
  refine HW.out.mono ?_
  rintro e w2 ⟨rfl, hm2, hg2⟩
  rw [List.nil_append] at hm2
  have hb2 : Below w.heap.size w1 w2 := RowKit.Below.of_grown hg2 hge (by omega)
  have hk2 := hk1.below hb2 h2
  have hl2 := hm2.lt'
  have HS := hide (ksum_any b key.data.toList text.data.toList w2 (by rw [HTL.out]; omega) hm2 hk2 (by omega))
  have HB2 := hide (HB1.out.trans hb2)
  clear hm2 hg2 hb2 hk1 hk2 HW HB1
  go_wp2_with fail
  refine HS.out.mono ?_
  rintro e w3 ⟨rfl, hb3⟩
  have HB3 := hide (HB2.out.trans (hb3.mono HB2.out.size))
  clear hb3
  go_wp2
  go_ret
  exact ⟨rfl, HB3.out⟩
set_option maxHeartbeats 800000 in
theorem extract_any (key text : ByteArray) (w : World) (hkey : key.size < 2 ^ 57) (htext : text.size < 2 ^ 57) (hk : KTab w) (hH : HTab w) (h2 : 2 ≤ w.heap.size) :
    Calls Tryd.prog 14 #[.string key, .string text] w fun e w' => e = .returned (.string ⟨(macL key.data.toList text.data.toList).toArray⟩) ∧ Below w.heap.size w w' := by
  have H1 := hide (hmac_any key text w hkey htext hk hH h2)
  clear hk hH
  go_enter Tryd.func14, Tryd.ntmps14
  go_wp2_with fail
  refine H1.out.mono ?_
  rintro e w1 ⟨rfl, hb1⟩
  have HB1 := hide hb1
  clear hb1
  go_wp2
  go_ret
  exact ⟨rfl, HB1.out⟩

theorem ba_size (l : List UInt8) : (⟨l.toArray⟩ : ByteArray).size = l.length := List.size_toArray

end Go.Proofs.YtpogfcfgbnccjaaDoor
