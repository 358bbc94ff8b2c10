import Derived.Test.YtocoggofjlipeaaGreatDoorL4
import Derived.Test.YtocoggofjlipeaaGreatDoorW8
namespace Go.Proofs.YtocoggofjlipeaaGreatDoor
open Go.RowKit

/-- Whose a block is: (0, 0) is nobody's of the law's. -/
abbrev Tags := Nat → Nat × Nat

/-- From w to w': no block has changed its owner; only blocks of owners in S have changed; (0, 0) is not in S by the users' care. -/
structure Stays (T T' : Tags) (w w' : World) (S : Nat × Nat → Prop) : Prop where
  os : w'.os = w.os
  tape : w'.tape = w.tape
  output : w'.output = w.output
  size : w.heap.size ≤ w'.heap.size
  tag : ∀ g, g < w.heap.size → T' g = T g
  block : ∀ g, g < w.heap.size → ¬ S (T g) → w'.heap[g]? = w.heap[g]?
theorem Stays.refl (T : Tags) (w : World) (S : Nat × Nat → Prop) : Stays T T w w S := ⟨rfl, rfl, rfl, Nat.le_refl _, fun _ _ => rfl, fun _ _ _ => rfl⟩
theorem Stays.trans {T T' T'' : Tags} {w w' w'' : World} {S : Nat × Nat → Prop} (h : Stays T T' w w' S) (k : Stays T' T'' w' w'' S) : Stays T T'' w w'' S :=
  ⟨k.os.trans h.os, k.tape.trans h.tape, k.output.trans h.output, Nat.le_trans h.size k.size,
   fun g hg => (k.tag g (Nat.lt_of_lt_of_le hg h.size)).trans (h.tag g hg),
   fun g hg hs => (k.block g (Nat.lt_of_lt_of_le hg h.size) (by rw [h.tag g hg]; exact hs)).trans (h.block g hg hs)⟩
theorem Stays.mono {T T' : Tags} {w w' : World} {S S' : Nat × Nat → Prop} (h : Stays T T' w w' S) (hs : ∀ c, S c → S' c) : Stays T T' w w' S' :=
  ⟨h.os, h.tape, h.output, h.size, h.tag, fun g hg hn => h.block g hg (fun hc => hn (hs _ hc))⟩
/-- New blocks get the owner c. -/
def fresh (T : Tags) (w : World) (c : Nat × Nat) : Tags := fun g => if g < w.heap.size then T g else c
theorem fresh_old (T : Tags) (w : World) (c : Nat × Nat) (g : Nat) (h : g < w.heap.size) : fresh T w c g = T g := if_pos h
theorem fresh_new (T : Tags) (w : World) (c : Nat × Nat) (g : Nat) (h : w.heap.size ≤ g) : fresh T w c g = c := if_neg (by omega)
theorem Stays.of_below {T : Tags} {w w' : World} {S : Nat × Nat → Prop} (c : Nat × Nat) (h : Below w.heap.size w w') : Stays T (fresh T w c) w w' S :=
  ⟨h.os, h.tape, h.output, h.size, fun g hg => fresh_old T w c g hg, fun g hg _ => h.block g hg⟩
theorem Stays.of_grown {T : Tags} {w w' : World} {S : Nat × Nat → Prop} (c : Nat × Nat) (b : Nat) (h : w.grownBy w' (some b)) (hb : S (T b)) : Stays T (fresh T w c) w w' S :=
  ⟨h.os, h.tape, h.output, h.size, fun g hg => fresh_old T w c g hg, fun g hg hs => h.block g hg (fun e => hs (by rw [Option.some.inj e]; exact hb))⟩
theorem Stays.drewN {T T' : Tags} {w w' : World} {S : Nat × Nat → Prop} (h : Stays T T' w w' S) (n : Nat) : Stays T T' w (w'.drewN n) S := ⟨h.os, h.tape, h.output, h.size, h.tag, h.block⟩
theorem Stays.below {T T' : Tags} {w w' : World} {S : Nat × Nat → Prop} {B : Nat} (h : Stays T T' w w' S) (hB : B ≤ w.heap.size) (h0 : ∀ g, g < B → T g = (0, 0)) (hs : ¬ S (0, 0)) : Below B w w' :=
  ⟨h.os, h.tape, h.output, h.size, fun g hg => h.block g (by omega) (by rw [h0 g hg]; exact hs)⟩

/-- Block b is c's and holds cs. -/
def At (T : Tags) (w : World) (c : Nat × Nat) (b : Nat) (t : TypeId) (cs : List Value) : Prop := Blk w b t cs ∧ T b = c
theorem At.stays {T T' : Tags} {w w' : World} {S : Nat × Nat → Prop} {c : Nat × Nat} {b : Nat} {t : TypeId} {cs : List Value} (h : At T w c b t cs) (hs : Stays T T' w w' S) (hc : ¬ S c) : At T' w' c b t cs := by
  have hl := h.1.lt
  refine ⟨?_, (hs.tag b hl).trans h.2⟩
  unfold Blk
  rw [hs.block b hl (by rw [h.2]; exact hc)]
  exact h.1
/-- The slice v is c's row of n elements. -/
def RowT (T : Tags) (w : World) (c : Nat × Nat) (e : TypeId) (size : Nat) (v : Value) (n : Nat) (xs : List Value) : Prop := Row w 0 e size v n xs ∧ ∀ g, v.ownBlock = some g → T g = c
theorem RowT.stays {T T' : Tags} {w w' : World} {S : Nat × Nat → Prop} {c : Nat × Nat} {e : TypeId} {size : Nat} {v : Value} {n : Nat} {xs : List Value} (h : RowT T w c e size v n xs) (hs : Stays T T' w w' S) (hc : ¬ S c) : RowT T' w' c e size v n xs := by
  obtain ⟨⟨h0, h1⟩, h2⟩ := h
  rcases h1 with hn | ⟨g, cap, cur, rfl, hb, hg, r⟩
  · refine ⟨⟨h0, .inl hn⟩, fun g hg => ?_⟩
    rw [hn.1] at hg
    cases hg
  · have hl := hg.lt
    have ht : T g = c := h2 g rfl
    refine ⟨⟨h0, .inr ⟨g, cap, cur, rfl, hb, ?_, r⟩⟩, fun k hk => ?_⟩
    · obtain ⟨lo, hi, e1, e2⟩ := hg
      exact ⟨lo, hi, by rw [hs.block g hl (by rw [ht]; exact hc)]; exact e1, e2⟩
    · have : g = k := Option.some.inj hk
      subst this
      exact (hs.tag g hl).trans ht
theorem RowT.nil (T : Tags) (w : World) (c : Nat × Nat) (e : TypeId) (size : Nat) : RowT T w c e size (.slice none 0 0) 0 [] := ⟨Row.nil _ _ _ _, fun g h => by cases h⟩
/-- A list of the caller's: nil, or a block of its own. -/
def Lst (T : Tags) (w : World) (c : Nat × Nat) (v : Value) (l : List ByteArray) : Prop :=
  (v = .slice none 0 0 ∧ l = []) ∨ ∃ g, v = .slice (some ⟨g, 0, none⟩) l.length l.length ∧ At T w c g 9 (strV l)
theorem Lst.stays {T T' : Tags} {w w' : World} {S : Nat × Nat → Prop} {c : Nat × Nat} {v : Value} {l : List ByteArray} (h : Lst T w c v l) (hs : Stays T T' w w' S) (hc : ¬ S c) : Lst T' w' c v l := by
  rcases h with h | ⟨g, h1, h2⟩
  · exact .inl h
  · exact .inr ⟨g, h1, h2.stays hs hc⟩
theorem Lst.strs {T : Tags} {w : World} {c : Nat × Nat} {v : Value} {l : List ByteArray} (h : Lst T w c v l) : Strs w v l := by
  rcases h with ⟨rfl, rfl⟩ | ⟨g, rfl, h, _⟩
  · exact .inl ⟨rfl, _, _, rfl⟩
  · refine .inr ⟨g, 0, _, rfl, fun i x hx => ?_⟩
    rw [Nat.zero_add]
    exact h.cell (by simp [strV, hx])

structure SpringR where
  bx : Nat
  bm : Nat
  text : ByteArray
  pos : Int
def SpringR.cells (p : SpringR) : List Value := [.string p.text, .int .i64 p.pos]
structure SinkR where
  bx : Nat
  gx : Nat
  bm : Nat
  gm : Nat
  got : ByteArray
  plan : List Int
  pos : Int
  hgot : got.size ≤ 65536
def SinkR.cells (p : SinkR) (g : Nat) : List Value := [.string p.got, .slice (some ⟨g, 0, none⟩) p.plan.length p.plan.length, .int .i64 p.pos]
structure SourceR where
  bx : Nat
  gx : Nat
  bm : Nat
  gm : Nat
  text : ByteArray
  pos : Int
  plan : List Int
  step : Int
def SourceR.cells (p : SourceR) (g : Nat) : List Value := [.string p.text, .int .i64 p.pos, .slice (some ⟨g, 0, none⟩) p.plan.length p.plan.length, .int .i64 p.step]
structure HashR where
  b : Nat
  l : List UInt8
structure MacR where
  b : Nat
  key : ByteArray
  l : List UInt8
/-- The key's block, each byte with c. -/
def padL (key : List UInt8) (c : UInt8) : List UInt8 := ((if 64 < key.length then Sha.sum key else key) ++ List.replicate (64 - (if 64 < key.length then Sha.sum key else key).length) 0).map (· ^^^ c)
/-- A mac: its inner and its outer hasher lie in one block. -/
def MRep (w : World) (b : Nat) (t : TypeId) (key l : List UInt8) : Prop :=
  ∃ ci co : List Value, ci.length = 73 ∧ co.length = 73 ∧ HRep w b t [] co (padL key 0x36 ++ l) ∧ HRep w b t ci [] (padL key 0x5c)
def maV (p : MacR) : List Value := [.pointer (some ⟨p.b, 0, none⟩), .string p.key, .string ⟨p.l.toArray⟩]
structure ListR where
  v : Value
  v2 : Value
  l : List ByteArray
def ptrs (a b : Nat) : List Value := [.pointer (some ⟨a, 0, none⟩), .pointer (some ⟨b, 0, none⟩)]

/-- What the law's world holds. -/
structure Sig where
  vsp : Value
  vsi : Value
  vso : Value
  vha : Value
  vma : Value
  vwo : Value
  vre : Value
  vls : Value
  vlw : Value
  sp : List SpringR
  si : List SinkR
  so : List SourceR
  ha : List HashR
  ma : List MacR
  wo : List ByteArray
  re : List ByteArray
  ls : List ListR
  file : ByteArray
  key : ByteArray
  nonce : ByteArray
  fr : Int
  n : Int
  ex : Int
def nilV : Value := .slice none 0 0
def Sig.cells (σ : Sig) : List Value := [σ.vsp, σ.vsi, σ.vso, nilV, nilV, nilV, σ.vha, σ.vma, nilV, nilV, σ.vwo, .string σ.file, .string σ.key, .string σ.nonce, σ.vre, σ.vls, σ.vlw, .int .i64 σ.fr, .int .i64 σ.n, .int .i64 σ.ex]

structure Inv (T : Tags) (base B M : Nat) (σ : Sig) (w : World) : Prop where
  hw : At T w (1, 0) B 44 σ.cells
  rsp : RowT T w (2, 0) 91 2 σ.vsp σ.sp.length (σ.sp.flatMap fun p => ptrs p.bx p.bm)
  rsi : RowT T w (2, 1) 96 2 σ.vsi σ.si.length (σ.si.flatMap fun p => ptrs p.bx p.bm)
  rso : RowT T w (2, 2) 100 2 σ.vso σ.so.length (σ.so.flatMap fun p => ptrs p.bx p.bm)
  rha : RowT T w (2, 6) 71 2 σ.vha σ.ha.length (σ.ha.flatMap fun p => [.pointer (some ⟨p.b, 0, none⟩), .string ⟨p.l.toArray⟩])
  rma : RowT T w (2, 7) 73 3 σ.vma σ.ma.length (σ.ma.flatMap maV)
  rwo : RowT T w (2, 10) 9 1 σ.vwo σ.wo.length (strV σ.wo)
  rre : RowT T w (2, 14) 9 1 σ.vre σ.re.length (strV σ.re)
  rls : RowT T w (2, 15) 41 1 σ.vls σ.ls.length (σ.ls.map (·.v))
  rlw : RowT T w (2, 16) 41 1 σ.vlw σ.ls.length (σ.ls.map (·.v2))
  sp : ∀ i p, σ.sp[i]? = some p → At T w (20, i) p.bx 157 p.cells ∧ At T w (21, i) p.bm 157 p.cells
  si : ∀ i p, σ.si[i]? = some p → (At T w (22, i) p.bx 159 (p.cells p.gx) ∧ At T w (23, i) p.gx 3 (intV p.plan)) ∧ At T w (24, i) p.bm 159 (p.cells p.gm) ∧ At T w (25, i) p.gm 3 (intV p.plan)
  so : ∀ i p, σ.so[i]? = some p → (At T w (26, i) p.bx 161 (p.cells p.gx) ∧ At T w (27, i) p.gx 3 (intV p.plan)) ∧ At T w (28, i) p.bm 161 (p.cells p.gm) ∧ At T w (29, i) p.gm 3 (intV p.plan)
  ha : ∀ i p, σ.ha[i]? = some p → HRep w p.b 135 [] [] p.l ∧ T p.b = (30, i) ∧ p.l.length ≤ M
  ma : ∀ i p, σ.ma[i]? = some p → MRep w p.b 142 p.key.data.toList p.l ∧ T p.b = (33, i) ∧ p.l.length ≤ M ∧ p.key.size ≤ M + 65536
  ls : ∀ i p, σ.ls[i]? = some p → Lst T w (31, i) p.v p.l ∧ Lst T w (32, i) p.v2 p.l
  old : ∀ g, g < base → T g = (0, 0)
  two : 2 ≤ base
  bsz : base ≤ w.heap.size
  kt : KTab w
  ht : HTab w
  bound : M ≤ 1073741824 ∧ σ.sp.length ≤ M ∧ σ.si.length ≤ M ∧ σ.so.length ≤ M ∧ σ.ha.length ≤ M ∧ σ.wo.length ≤ M ∧ σ.re.length ≤ M ∧ σ.ls.length ≤ M ∧ σ.ma.length ≤ M
  sizes : (∀ x ∈ σ.wo, x.size ≤ M + 65536) ∧ (∀ x ∈ σ.re, x.size ≤ M + 65536) ∧ (∀ p ∈ σ.ls, p.l.length ≤ M ∧ ∀ x ∈ p.l, x.size ≤ M + 65536) ∧ σ.file.size ≤ M + 65536 ∧ σ.key.size ≤ M + 65536 ∧ σ.nonce.size ≤ M + 65536
end Go.Proofs.YtocoggofjlipeaaGreatDoor
