import Derived.Test.YtfidnpchkfpoeaaGreatDoorP1
namespace Go.Proofs.YtfidnpchkfpoeaaGreatDoor
open Go.RowKit

structure SpringR where
  bx : Nat
  bm : Nat
  text : ByteArray
  pos : Int
def SpringR.cells (p : SpringR) : List Value := [.string p.text, .int .i64 p.pos]
structure SinkR where
  bx : Nat
  gx : Nat
  bm : Nat
  gm : Nat
  got : ByteArray
  plan : List Int
  pos : Int
  hgot : got.size ≤ 65536
def SinkR.cells (p : SinkR) (g : Nat) : List Value := [.string p.got, .slice (some ⟨g, 0, none⟩) p.plan.length p.plan.length, .int .i64 p.pos]
structure SourceR where
  bx : Nat
  gx : Nat
  bm : Nat
  gm : Nat
  text : ByteArray
  pos : Int
  plan : List Int
  step : Int
def SourceR.cells (p : SourceR) (g : Nat) : List Value := [.string p.text, .int .i64 p.pos, .slice (some ⟨g, 0, none⟩) p.plan.length p.plan.length, .int .i64 p.step]
structure HashR where
  b : Nat
  l : List UInt8
structure MacR where
  b : Nat
  key : ByteArray
  l : List UInt8
/-- The key's block, each byte with c. -/
def padL (key : List UInt8) (c : UInt8) : List UInt8 := ((if 64 < key.length then Sha.sum key else key) ++ List.replicate (64 - (if 64 < key.length then Sha.sum key else key).length) 0).map (· ^^^ c)
/-- A mac: its inner and its outer hasher lie in one block. -/
def MRep (w : World) (b : Nat) (t : TypeId) (key l : List UInt8) : Prop :=
  ∃ ci co : List Value, ci.length = 73 ∧ co.length = 73 ∧ HRep w b t [] co (padL key 0x36 ++ l) ∧ HRep w b t ci [] (padL key 0x5c)
def maV (p : MacR) : List Value := [.pointer (some ⟨p.b, 0, none⟩), .string p.key, .string ⟨p.l.toArray⟩]
structure StrR where
  b : Nat
  key : ByteArray
  nonce : ByteArray
  n : Nat
  used : Nat
def stV (p : StrR) : List Value := [.pointer (some ⟨p.b, 0, none⟩), .string p.key, .string p.nonce, .int .i64 (p.n : Nat), .int .i64 (p.used : Nat)]
structure TagR where
  b : Nat
  key : ByteArray
  l : List UInt8
def taV (p : TagR) : List Value := [.pointer (some ⟨p.b, 0, none⟩), .string p.key, .string ⟨p.l.toArray⟩]
structure ListR where
  v : Value
  v2 : Value
  l : List ByteArray
def ptrs (a b : Nat) : List Value := [.pointer (some ⟨a, 0, none⟩), .pointer (some ⟨b, 0, none⟩)]

/-- What the law's world holds. -/
structure Sig where
  vsp : Value
  vsi : Value
  vso : Value
  vha : Value
  vma : Value
  vst : Value
  vta : Value
  vwo : Value
  vre : Value
  vls : Value
  vlw : Value
  sp : List SpringR
  si : List SinkR
  so : List SourceR
  ha : List HashR
  ma : List MacR
  st : List StrR
  ta : List TagR
  wo : List ByteArray
  re : List ByteArray
  ls : List ListR
  file : ByteArray
  key : ByteArray
  nonce : ByteArray
  fr : Int
  n : Int
  ex : Int
def nilV : Value := .slice none 0 0
def Sig.cells (σ : Sig) : List Value := [σ.vsp, σ.vsi, σ.vso, nilV, nilV, nilV, σ.vha, σ.vma, σ.vst, σ.vta, σ.vwo, .string σ.file, .string σ.key, .string σ.nonce, σ.vre, σ.vls, σ.vlw, .int .i64 σ.fr, .int .i64 σ.n, .int .i64 σ.ex]

structure Inv (T : Tags) (base B M : Nat) (σ : Sig) (w : World) : Prop where
  hw : At T w (1, 0) B 44 σ.cells
  rsp : RowT T w (2, 0) 91 2 σ.vsp σ.sp.length (σ.sp.flatMap fun p => ptrs p.bx p.bm)
  rsi : RowT T w (2, 1) 96 2 σ.vsi σ.si.length (σ.si.flatMap fun p => ptrs p.bx p.bm)
  rso : RowT T w (2, 2) 100 2 σ.vso σ.so.length (σ.so.flatMap fun p => ptrs p.bx p.bm)
  rha : RowT T w (2, 6) 71 2 σ.vha σ.ha.length (σ.ha.flatMap fun p => [.pointer (some ⟨p.b, 0, none⟩), .string ⟨p.l.toArray⟩])
  rma : RowT T w (2, 7) 73 3 σ.vma σ.ma.length (σ.ma.flatMap maV)
  rst : RowT T w (2, 8) 78 5 σ.vst σ.st.length (σ.st.flatMap stV)
  rta : RowT T w (2, 9) 85 3 σ.vta σ.ta.length (σ.ta.flatMap taV)
  rwo : RowT T w (2, 10) 9 1 σ.vwo σ.wo.length (strV σ.wo)
  rre : RowT T w (2, 14) 9 1 σ.vre σ.re.length (strV σ.re)
  rls : RowT T w (2, 15) 41 1 σ.vls σ.ls.length (σ.ls.map (·.v))
  rlw : RowT T w (2, 16) 41 1 σ.vlw σ.ls.length (σ.ls.map (·.v2))
  sp : ∀ i p, σ.sp[i]? = some p → At T w (20, i) p.bx 171 p.cells ∧ At T w (21, i) p.bm 171 p.cells
  si : ∀ i p, σ.si[i]? = some p → (At T w (22, i) p.bx 173 (p.cells p.gx) ∧ At T w (23, i) p.gx 3 (intV p.plan)) ∧ At T w (24, i) p.bm 173 (p.cells p.gm) ∧ At T w (25, i) p.gm 3 (intV p.plan)
  so : ∀ i p, σ.so[i]? = some p → (At T w (26, i) p.bx 175 (p.cells p.gx) ∧ At T w (27, i) p.gx 3 (intV p.plan)) ∧ At T w (28, i) p.bm 175 (p.cells p.gm) ∧ At T w (29, i) p.gm 3 (intV p.plan)
  ha : ∀ i p, σ.ha[i]? = some p → HRep w p.b 135 [] [] p.l ∧ T p.b = (30, i) ∧ p.l.length ≤ M
  ma : ∀ i p, σ.ma[i]? = some p → MRep w p.b 142 p.key.data.toList p.l ∧ T p.b = (33, i) ∧ p.l.length ≤ M ∧ p.key.size ≤ M + 65536
  st : ∀ i p, σ.st[i]? = some p → SRep T w (34, i) p.b p.key.data.toList p.nonce.data.toList p.n p.used ∧ p.key.size = 32 ∧ p.nonce.size = 12 ∧ p.n ≤ 4294967295 ∧ p.used ≤ M
  ta : ∀ i p, σ.ta[i]? = some p → TRep T w (35, i) p.b p.key.data.toList p.l ∧ p.key.size = 32 ∧ p.l.length ≤ M
  ls : ∀ i p, σ.ls[i]? = some p → Lst T w (31, i) p.v p.l ∧ Lst T w (32, i) p.v2 p.l
  old : ∀ g, g < base → T g = (0, 0)
  two : 2 ≤ base
  bsz : base ≤ w.heap.size
  kt : KTab w
  ht : HTab w
  bound : M ≤ 1073741824 ∧ σ.sp.length ≤ M ∧ σ.si.length ≤ M ∧ σ.so.length ≤ M ∧ σ.ha.length ≤ M ∧ σ.wo.length ≤ M ∧ σ.re.length ≤ M ∧ σ.ls.length ≤ M ∧ σ.ma.length ≤ M ∧ σ.st.length ≤ M ∧ σ.ta.length ≤ M
  sizes : (∀ x ∈ σ.wo, x.size ≤ M + 65536) ∧ (∀ x ∈ σ.re, x.size ≤ M + 65536) ∧ (∀ p ∈ σ.ls, p.l.length ≤ M ∧ ∀ x ∈ p.l, x.size ≤ M + 65536) ∧ σ.file.size ≤ M + 65536 ∧ σ.key.size ≤ M + 65536 ∧ σ.nonce.size ≤ M + 65536
end Go.Proofs.YtfidnpchkfpoeaaGreatDoor
namespace Go.Proofs.YtfidnpchkfpoeaaGreatDoor
open Go.RowKit
theorem HRep.stays {T T' : Tags} {w w' : World} {S : Nat × Nat → Prop} {c : Nat × Nat} {b : Nat} {t : TypeId} {pre post : List Value} {l : List UInt8} (h : HRep w b t pre post l) (hs : Stays T T' w w' S) (ht : T b = c) (hc : ¬ S c) : HRep w' b t pre post l := by
  obtain ⟨k, h1, h2, h3⟩ := h
  refine ⟨k, h1, h2, ?_⟩
  unfold Blk
  rw [hs.block b h3.lt (by rw [ht]; exact hc)]
  exact h3
theorem MRep.lt {w : World} {b : Nat} {t : TypeId} {key l : List UInt8} (h : MRep w b t key l) : b < w.heap.size := by
  obtain ⟨ci, co, _, _, h, _⟩ := h
  exact h.lt
theorem MRep.stays {T T' : Tags} {w w' : World} {S : Nat × Nat → Prop} {c : Nat × Nat} {b : Nat} {t : TypeId} {key l : List UInt8} (h : MRep w b t key l) (hs : Stays T T' w w' S) (ht : T b = c) (hc : ¬ S c) : MRep w' b t key l := by
  obtain ⟨ci, co, h1, h2, h3, h4⟩ := h
  exact ⟨ci, co, h1, h2, h3.stays hs ht hc, h4.stays hs ht hc⟩
theorem Inv.uwo {T T' : Tags} {base B M M' : Nat} {σ : Sig} {w w' : World} (h : Inv T base B M σ w) (hM : M ≤ M') (v' : Value) (wo' : List ByteArray)
    (hs : Stays T T' w w' (fun c => c = (1, 0) ∨ c = (2, 10)))
    (hw : At T' w' (1, 0) B 44 ({ σ with vwo := v', wo := wo' } : Sig).cells)
    (nrwo : RowT T' w' (2, 10) 9 1 v' wo'.length (strV wo'))
    (hbd : M' ≤ 1073741824 ∧ ({ σ with vwo := v', wo := wo' } : Sig).sp.length ≤ M' ∧ ({ σ with vwo := v', wo := wo' } : Sig).si.length ≤ M' ∧ ({ σ with vwo := v', wo := wo' } : Sig).so.length ≤ M' ∧ ({ σ with vwo := v', wo := wo' } : Sig).ha.length ≤ M' ∧ ({ σ with vwo := v', wo := wo' } : Sig).wo.length ≤ M' ∧ ({ σ with vwo := v', wo := wo' } : Sig).re.length ≤ M' ∧ ({ σ with vwo := v', wo := wo' } : Sig).ls.length ≤ M' ∧ ({ σ with vwo := v', wo := wo' } : Sig).ma.length ≤ M' ∧ ({ σ with vwo := v', wo := wo' } : Sig).st.length ≤ M' ∧ ({ σ with vwo := v', wo := wo' } : Sig).ta.length ≤ M')
    (hsz : (∀ x ∈ ({ σ with vwo := v', wo := wo' } : Sig).wo, x.size ≤ M' + 65536) ∧ (∀ x ∈ ({ σ with vwo := v', wo := wo' } : Sig).re, x.size ≤ M' + 65536) ∧ (∀ p ∈ ({ σ with vwo := v', wo := wo' } : Sig).ls, p.l.length ≤ M' ∧ ∀ x ∈ p.l, x.size ≤ M' + 65536) ∧ ({ σ with vwo := v', wo := wo' } : Sig).file.size ≤ M' + 65536 ∧ ({ σ with vwo := v', wo := wo' } : Sig).key.size ≤ M' + 65536 ∧ ({ σ with vwo := v', wo := wo' } : Sig).nonce.size ≤ M' + 65536) :
    Inv T' base B M' { σ with vwo := v', wo := wo' } w' where
  hw := hw
  rsp := h.rsp.stays hs (by simp)
  rsi := h.rsi.stays hs (by simp)
  rso := h.rso.stays hs (by simp)
  rha := h.rha.stays hs (by simp)
  rma := h.rma.stays hs (by simp)
  rst := h.rst.stays hs (by simp)
  rta := h.rta.stays hs (by simp)
  rwo := nrwo
  rre := h.rre.stays hs (by simp)
  rls := h.rls.stays hs (by simp)
  rlw := h.rlw.stays hs (by simp)
  sp := fun i p hp => ⟨(h.sp i p hp).1.stays hs (by simp), (h.sp i p hp).2.stays hs (by simp)⟩
  si := fun i p hp => ⟨⟨(h.si i p hp).1.1.stays hs (by simp), (h.si i p hp).1.2.stays hs (by simp)⟩, (h.si i p hp).2.1.stays hs (by simp), (h.si i p hp).2.2.stays hs (by simp)⟩
  so := fun i p hp => ⟨⟨(h.so i p hp).1.1.stays hs (by simp), (h.so i p hp).1.2.stays hs (by simp)⟩, (h.so i p hp).2.1.stays hs (by simp), (h.so i p hp).2.2.stays hs (by simp)⟩
  ha := fun i p hp => ⟨(h.ha i p hp).1.stays hs (h.ha i p hp).2.1 (by simp), (hs.tag _ (h.ha i p hp).1.lt).trans (h.ha i p hp).2.1, Nat.le_trans (h.ha i p hp).2.2 hM⟩
  ma := fun i p hp => ⟨(h.ma i p hp).1.stays hs (h.ma i p hp).2.1 (by simp), (hs.tag _ (h.ma i p hp).1.lt).trans (h.ma i p hp).2.1, Nat.le_trans (h.ma i p hp).2.2.1 hM, Nat.le_trans (h.ma i p hp).2.2.2 (by omega)⟩
  st := fun i p hp => ⟨(h.st i p hp).1.stays hs (by simp), (h.st i p hp).2.1, (h.st i p hp).2.2.1, (h.st i p hp).2.2.2.1, Nat.le_trans (h.st i p hp).2.2.2.2 hM⟩
  ta := fun i p hp => ⟨(h.ta i p hp).1.stays hs (by simp), (h.ta i p hp).2.1, Nat.le_trans (h.ta i p hp).2.2 hM⟩
  ls := fun i p hp => ⟨(h.ls i p hp).1.stays hs (by simp), (h.ls i p hp).2.stays hs (by simp)⟩
  old := fun g hg => (hs.tag g (Nat.lt_of_lt_of_le hg h.bsz)).trans (h.old g hg)
  two := h.two
  bsz := Nat.le_trans h.bsz hs.size
  kt := h.kt.below (hs.below h.bsz h.old (by simp)) h.two
  ht := h.ht.below (hs.below h.bsz h.old (by simp)) h.two
  bound := hbd
  sizes := hsz
theorem Inv.uscal {T T' : Tags} {base B M M' : Nat} {σ : Sig} {w w' : World} (h : Inv T base B M σ w) (hM : M ≤ M') (f' k' n' : ByteArray) (a' b' c' : Int)
    (hs : Stays T T' w w' (fun c => c = (1, 0)))
    (hw : At T' w' (1, 0) B 44 ({ σ with file := f', key := k', nonce := n', fr := a', n := b', ex := c' } : Sig).cells)
    (hbd : M' ≤ 1073741824 ∧ ({ σ with file := f', key := k', nonce := n', fr := a', n := b', ex := c' } : Sig).sp.length ≤ M' ∧ ({ σ with file := f', key := k', nonce := n', fr := a', n := b', ex := c' } : Sig).si.length ≤ M' ∧ ({ σ with file := f', key := k', nonce := n', fr := a', n := b', ex := c' } : Sig).so.length ≤ M' ∧ ({ σ with file := f', key := k', nonce := n', fr := a', n := b', ex := c' } : Sig).ha.length ≤ M' ∧ ({ σ with file := f', key := k', nonce := n', fr := a', n := b', ex := c' } : Sig).wo.length ≤ M' ∧ ({ σ with file := f', key := k', nonce := n', fr := a', n := b', ex := c' } : Sig).re.length ≤ M' ∧ ({ σ with file := f', key := k', nonce := n', fr := a', n := b', ex := c' } : Sig).ls.length ≤ M' ∧ ({ σ with file := f', key := k', nonce := n', fr := a', n := b', ex := c' } : Sig).ma.length ≤ M' ∧ ({ σ with file := f', key := k', nonce := n', fr := a', n := b', ex := c' } : Sig).st.length ≤ M' ∧ ({ σ with file := f', key := k', nonce := n', fr := a', n := b', ex := c' } : Sig).ta.length ≤ M')
    (hsz : (∀ x ∈ ({ σ with file := f', key := k', nonce := n', fr := a', n := b', ex := c' } : Sig).wo, x.size ≤ M' + 65536) ∧ (∀ x ∈ ({ σ with file := f', key := k', nonce := n', fr := a', n := b', ex := c' } : Sig).re, x.size ≤ M' + 65536) ∧ (∀ p ∈ ({ σ with file := f', key := k', nonce := n', fr := a', n := b', ex := c' } : Sig).ls, p.l.length ≤ M' ∧ ∀ x ∈ p.l, x.size ≤ M' + 65536) ∧ ({ σ with file := f', key := k', nonce := n', fr := a', n := b', ex := c' } : Sig).file.size ≤ M' + 65536 ∧ ({ σ with file := f', key := k', nonce := n', fr := a', n := b', ex := c' } : Sig).key.size ≤ M' + 65536 ∧ ({ σ with file := f', key := k', nonce := n', fr := a', n := b', ex := c' } : Sig).nonce.size ≤ M' + 65536) :
    Inv T' base B M' { σ with file := f', key := k', nonce := n', fr := a', n := b', ex := c' } w' where
  hw := hw
  rsp := h.rsp.stays hs (by simp)
  rsi := h.rsi.stays hs (by simp)
  rso := h.rso.stays hs (by simp)
  rha := h.rha.stays hs (by simp)
  rma := h.rma.stays hs (by simp)
  rst := h.rst.stays hs (by simp)
  rta := h.rta.stays hs (by simp)
  rwo := h.rwo.stays hs (by simp)
  rre := h.rre.stays hs (by simp)
  rls := h.rls.stays hs (by simp)
  rlw := h.rlw.stays hs (by simp)
  sp := fun i p hp => ⟨(h.sp i p hp).1.stays hs (by simp), (h.sp i p hp).2.stays hs (by simp)⟩
  si := fun i p hp => ⟨⟨(h.si i p hp).1.1.stays hs (by simp), (h.si i p hp).1.2.stays hs (by simp)⟩, (h.si i p hp).2.1.stays hs (by simp), (h.si i p hp).2.2.stays hs (by simp)⟩
  so := fun i p hp => ⟨⟨(h.so i p hp).1.1.stays hs (by simp), (h.so i p hp).1.2.stays hs (by simp)⟩, (h.so i p hp).2.1.stays hs (by simp), (h.so i p hp).2.2.stays hs (by simp)⟩
  ha := fun i p hp => ⟨(h.ha i p hp).1.stays hs (h.ha i p hp).2.1 (by simp), (hs.tag _ (h.ha i p hp).1.lt).trans (h.ha i p hp).2.1, Nat.le_trans (h.ha i p hp).2.2 hM⟩
  ma := fun i p hp => ⟨(h.ma i p hp).1.stays hs (h.ma i p hp).2.1 (by simp), (hs.tag _ (h.ma i p hp).1.lt).trans (h.ma i p hp).2.1, Nat.le_trans (h.ma i p hp).2.2.1 hM, Nat.le_trans (h.ma i p hp).2.2.2 (by omega)⟩
  st := fun i p hp => ⟨(h.st i p hp).1.stays hs (by simp), (h.st i p hp).2.1, (h.st i p hp).2.2.1, (h.st i p hp).2.2.2.1, Nat.le_trans (h.st i p hp).2.2.2.2 hM⟩
  ta := fun i p hp => ⟨(h.ta i p hp).1.stays hs (by simp), (h.ta i p hp).2.1, Nat.le_trans (h.ta i p hp).2.2 hM⟩
  ls := fun i p hp => ⟨(h.ls i p hp).1.stays hs (by simp), (h.ls i p hp).2.stays hs (by simp)⟩
  old := fun g hg => (hs.tag g (Nat.lt_of_lt_of_le hg h.bsz)).trans (h.old g hg)
  two := h.two
  bsz := Nat.le_trans h.bsz hs.size
  kt := h.kt.below (hs.below h.bsz h.old (by simp)) h.two
  ht := h.ht.below (hs.below h.bsz h.old (by simp)) h.two
  bound := hbd
  sizes := hsz
theorem Inv.ure {T T' : Tags} {base B M M' : Nat} {σ : Sig} {w w' : World} (h : Inv T base B M σ w) (hM : M ≤ M') (v' : Value) (re' : List ByteArray)
    (hs : Stays T T' w w' (fun c => c = (1, 0) ∨ c = (2, 14)))
    (hw : At T' w' (1, 0) B 44 ({ σ with vre := v', re := re' } : Sig).cells)
    (nrre : RowT T' w' (2, 14) 9 1 v' re'.length (strV re'))
    (hbd : M' ≤ 1073741824 ∧ ({ σ with vre := v', re := re' } : Sig).sp.length ≤ M' ∧ ({ σ with vre := v', re := re' } : Sig).si.length ≤ M' ∧ ({ σ with vre := v', re := re' } : Sig).so.length ≤ M' ∧ ({ σ with vre := v', re := re' } : Sig).ha.length ≤ M' ∧ ({ σ with vre := v', re := re' } : Sig).wo.length ≤ M' ∧ ({ σ with vre := v', re := re' } : Sig).re.length ≤ M' ∧ ({ σ with vre := v', re := re' } : Sig).ls.length ≤ M' ∧ ({ σ with vre := v', re := re' } : Sig).ma.length ≤ M' ∧ ({ σ with vre := v', re := re' } : Sig).st.length ≤ M' ∧ ({ σ with vre := v', re := re' } : Sig).ta.length ≤ M')
    (hsz : (∀ x ∈ ({ σ with vre := v', re := re' } : Sig).wo, x.size ≤ M' + 65536) ∧ (∀ x ∈ ({ σ with vre := v', re := re' } : Sig).re, x.size ≤ M' + 65536) ∧ (∀ p ∈ ({ σ with vre := v', re := re' } : Sig).ls, p.l.length ≤ M' ∧ ∀ x ∈ p.l, x.size ≤ M' + 65536) ∧ ({ σ with vre := v', re := re' } : Sig).file.size ≤ M' + 65536 ∧ ({ σ with vre := v', re := re' } : Sig).key.size ≤ M' + 65536 ∧ ({ σ with vre := v', re := re' } : Sig).nonce.size ≤ M' + 65536) :
    Inv T' base B M' { σ with vre := v', re := re' } w' where
  hw := hw
  rsp := h.rsp.stays hs (by simp)
  rsi := h.rsi.stays hs (by simp)
  rso := h.rso.stays hs (by simp)
  rha := h.rha.stays hs (by simp)
  rma := h.rma.stays hs (by simp)
  rst := h.rst.stays hs (by simp)
  rta := h.rta.stays hs (by simp)
  rwo := h.rwo.stays hs (by simp)
  rre := nrre
  rls := h.rls.stays hs (by simp)
  rlw := h.rlw.stays hs (by simp)
  sp := fun i p hp => ⟨(h.sp i p hp).1.stays hs (by simp), (h.sp i p hp).2.stays hs (by simp)⟩
  si := fun i p hp => ⟨⟨(h.si i p hp).1.1.stays hs (by simp), (h.si i p hp).1.2.stays hs (by simp)⟩, (h.si i p hp).2.1.stays hs (by simp), (h.si i p hp).2.2.stays hs (by simp)⟩
  so := fun i p hp => ⟨⟨(h.so i p hp).1.1.stays hs (by simp), (h.so i p hp).1.2.stays hs (by simp)⟩, (h.so i p hp).2.1.stays hs (by simp), (h.so i p hp).2.2.stays hs (by simp)⟩
  ha := fun i p hp => ⟨(h.ha i p hp).1.stays hs (h.ha i p hp).2.1 (by simp), (hs.tag _ (h.ha i p hp).1.lt).trans (h.ha i p hp).2.1, Nat.le_trans (h.ha i p hp).2.2 hM⟩
  ma := fun i p hp => ⟨(h.ma i p hp).1.stays hs (h.ma i p hp).2.1 (by simp), (hs.tag _ (h.ma i p hp).1.lt).trans (h.ma i p hp).2.1, Nat.le_trans (h.ma i p hp).2.2.1 hM, Nat.le_trans (h.ma i p hp).2.2.2 (by omega)⟩
  st := fun i p hp => ⟨(h.st i p hp).1.stays hs (by simp), (h.st i p hp).2.1, (h.st i p hp).2.2.1, (h.st i p hp).2.2.2.1, Nat.le_trans (h.st i p hp).2.2.2.2 hM⟩
  ta := fun i p hp => ⟨(h.ta i p hp).1.stays hs (by simp), (h.ta i p hp).2.1, Nat.le_trans (h.ta i p hp).2.2 hM⟩
  ls := fun i p hp => ⟨(h.ls i p hp).1.stays hs (by simp), (h.ls i p hp).2.stays hs (by simp)⟩
  old := fun g hg => (hs.tag g (Nat.lt_of_lt_of_le hg h.bsz)).trans (h.old g hg)
  two := h.two
  bsz := Nat.le_trans h.bsz hs.size
  kt := h.kt.below (hs.below h.bsz h.old (by simp)) h.two
  ht := h.ht.below (hs.below h.bsz h.old (by simp)) h.two
  bound := hbd
  sizes := hsz
theorem Inv.usp {T T' : Tags} {base B M M' : Nat} {σ : Sig} {w w' : World} (h : Inv T base B M σ w) (hM : M ≤ M') (v' : Value) (sp' : List SpringR)
    (hs : Stays T T' w w' (fun c => c = (1, 0) ∨ c = (2, 0)))
    (hw : At T' w' (1, 0) B 44 ({ σ with vsp := v', sp := sp' } : Sig).cells)
    (nrsp : RowT T' w' (2, 0) 91 2 v' sp'.length (sp'.flatMap fun p => ptrs p.bx p.bm))
    (nsp : ∀ i p, sp'[i]? = some p → At T' w' (20, i) p.bx 171 p.cells ∧ At T' w' (21, i) p.bm 171 p.cells)
    (hbd : M' ≤ 1073741824 ∧ ({ σ with vsp := v', sp := sp' } : Sig).sp.length ≤ M' ∧ ({ σ with vsp := v', sp := sp' } : Sig).si.length ≤ M' ∧ ({ σ with vsp := v', sp := sp' } : Sig).so.length ≤ M' ∧ ({ σ with vsp := v', sp := sp' } : Sig).ha.length ≤ M' ∧ ({ σ with vsp := v', sp := sp' } : Sig).wo.length ≤ M' ∧ ({ σ with vsp := v', sp := sp' } : Sig).re.length ≤ M' ∧ ({ σ with vsp := v', sp := sp' } : Sig).ls.length ≤ M' ∧ ({ σ with vsp := v', sp := sp' } : Sig).ma.length ≤ M' ∧ ({ σ with vsp := v', sp := sp' } : Sig).st.length ≤ M' ∧ ({ σ with vsp := v', sp := sp' } : Sig).ta.length ≤ M')
    (hsz : (∀ x ∈ ({ σ with vsp := v', sp := sp' } : Sig).wo, x.size ≤ M' + 65536) ∧ (∀ x ∈ ({ σ with vsp := v', sp := sp' } : Sig).re, x.size ≤ M' + 65536) ∧ (∀ p ∈ ({ σ with vsp := v', sp := sp' } : Sig).ls, p.l.length ≤ M' ∧ ∀ x ∈ p.l, x.size ≤ M' + 65536) ∧ ({ σ with vsp := v', sp := sp' } : Sig).file.size ≤ M' + 65536 ∧ ({ σ with vsp := v', sp := sp' } : Sig).key.size ≤ M' + 65536 ∧ ({ σ with vsp := v', sp := sp' } : Sig).nonce.size ≤ M' + 65536) :
    Inv T' base B M' { σ with vsp := v', sp := sp' } w' where
  hw := hw
  rsp := nrsp
  rsi := h.rsi.stays hs (by simp)
  rso := h.rso.stays hs (by simp)
  rha := h.rha.stays hs (by simp)
  rma := h.rma.stays hs (by simp)
  rst := h.rst.stays hs (by simp)
  rta := h.rta.stays hs (by simp)
  rwo := h.rwo.stays hs (by simp)
  rre := h.rre.stays hs (by simp)
  rls := h.rls.stays hs (by simp)
  rlw := h.rlw.stays hs (by simp)
  sp := nsp
  si := fun i p hp => ⟨⟨(h.si i p hp).1.1.stays hs (by simp), (h.si i p hp).1.2.stays hs (by simp)⟩, (h.si i p hp).2.1.stays hs (by simp), (h.si i p hp).2.2.stays hs (by simp)⟩
  so := fun i p hp => ⟨⟨(h.so i p hp).1.1.stays hs (by simp), (h.so i p hp).1.2.stays hs (by simp)⟩, (h.so i p hp).2.1.stays hs (by simp), (h.so i p hp).2.2.stays hs (by simp)⟩
  ha := fun i p hp => ⟨(h.ha i p hp).1.stays hs (h.ha i p hp).2.1 (by simp), (hs.tag _ (h.ha i p hp).1.lt).trans (h.ha i p hp).2.1, Nat.le_trans (h.ha i p hp).2.2 hM⟩
  ma := fun i p hp => ⟨(h.ma i p hp).1.stays hs (h.ma i p hp).2.1 (by simp), (hs.tag _ (h.ma i p hp).1.lt).trans (h.ma i p hp).2.1, Nat.le_trans (h.ma i p hp).2.2.1 hM, Nat.le_trans (h.ma i p hp).2.2.2 (by omega)⟩
  st := fun i p hp => ⟨(h.st i p hp).1.stays hs (by simp), (h.st i p hp).2.1, (h.st i p hp).2.2.1, (h.st i p hp).2.2.2.1, Nat.le_trans (h.st i p hp).2.2.2.2 hM⟩
  ta := fun i p hp => ⟨(h.ta i p hp).1.stays hs (by simp), (h.ta i p hp).2.1, Nat.le_trans (h.ta i p hp).2.2 hM⟩
  ls := fun i p hp => ⟨(h.ls i p hp).1.stays hs (by simp), (h.ls i p hp).2.stays hs (by simp)⟩
  old := fun g hg => (hs.tag g (Nat.lt_of_lt_of_le hg h.bsz)).trans (h.old g hg)
  two := h.two
  bsz := Nat.le_trans h.bsz hs.size
  kt := h.kt.below (hs.below h.bsz h.old (by simp)) h.two
  ht := h.ht.below (hs.below h.bsz h.old (by simp)) h.two
  bound := hbd
  sizes := hsz
theorem Inv.uha {T T' : Tags} {base B M M' : Nat} {σ : Sig} {w w' : World} (h : Inv T base B M σ w) (hM : M ≤ M') (v' : Value) (ha' : List HashR)
    (hs : Stays T T' w w' (fun c => c = (1, 0) ∨ c = (2, 6) ∨ c.1 = 30))
    (hw : At T' w' (1, 0) B 44 ({ σ with vha := v', ha := ha' } : Sig).cells)
    (nrha : RowT T' w' (2, 6) 71 2 v' ha'.length (ha'.flatMap fun p => [.pointer (some ⟨p.b, 0, none⟩), .string ⟨p.l.toArray⟩]))
    (nha : ∀ i p, ha'[i]? = some p → HRep w' p.b 135 [] [] p.l ∧ T' p.b = (30, i) ∧ p.l.length ≤ M')
    (hbd : M' ≤ 1073741824 ∧ ({ σ with vha := v', ha := ha' } : Sig).sp.length ≤ M' ∧ ({ σ with vha := v', ha := ha' } : Sig).si.length ≤ M' ∧ ({ σ with vha := v', ha := ha' } : Sig).so.length ≤ M' ∧ ({ σ with vha := v', ha := ha' } : Sig).ha.length ≤ M' ∧ ({ σ with vha := v', ha := ha' } : Sig).wo.length ≤ M' ∧ ({ σ with vha := v', ha := ha' } : Sig).re.length ≤ M' ∧ ({ σ with vha := v', ha := ha' } : Sig).ls.length ≤ M' ∧ ({ σ with vha := v', ha := ha' } : Sig).ma.length ≤ M' ∧ ({ σ with vha := v', ha := ha' } : Sig).st.length ≤ M' ∧ ({ σ with vha := v', ha := ha' } : Sig).ta.length ≤ M')
    (hsz : (∀ x ∈ ({ σ with vha := v', ha := ha' } : Sig).wo, x.size ≤ M' + 65536) ∧ (∀ x ∈ ({ σ with vha := v', ha := ha' } : Sig).re, x.size ≤ M' + 65536) ∧ (∀ p ∈ ({ σ with vha := v', ha := ha' } : Sig).ls, p.l.length ≤ M' ∧ ∀ x ∈ p.l, x.size ≤ M' + 65536) ∧ ({ σ with vha := v', ha := ha' } : Sig).file.size ≤ M' + 65536 ∧ ({ σ with vha := v', ha := ha' } : Sig).key.size ≤ M' + 65536 ∧ ({ σ with vha := v', ha := ha' } : Sig).nonce.size ≤ M' + 65536) :
    Inv T' base B M' { σ with vha := v', ha := ha' } w' where
  hw := hw
  rsp := h.rsp.stays hs (by simp)
  rsi := h.rsi.stays hs (by simp)
  rso := h.rso.stays hs (by simp)
  rha := nrha
  rma := h.rma.stays hs (by simp)
  rst := h.rst.stays hs (by simp)
  rta := h.rta.stays hs (by simp)
  rwo := h.rwo.stays hs (by simp)
  rre := h.rre.stays hs (by simp)
  rls := h.rls.stays hs (by simp)
  rlw := h.rlw.stays hs (by simp)
  sp := fun i p hp => ⟨(h.sp i p hp).1.stays hs (by simp), (h.sp i p hp).2.stays hs (by simp)⟩
  si := fun i p hp => ⟨⟨(h.si i p hp).1.1.stays hs (by simp), (h.si i p hp).1.2.stays hs (by simp)⟩, (h.si i p hp).2.1.stays hs (by simp), (h.si i p hp).2.2.stays hs (by simp)⟩
  so := fun i p hp => ⟨⟨(h.so i p hp).1.1.stays hs (by simp), (h.so i p hp).1.2.stays hs (by simp)⟩, (h.so i p hp).2.1.stays hs (by simp), (h.so i p hp).2.2.stays hs (by simp)⟩
  ha := nha
  ma := fun i p hp => ⟨(h.ma i p hp).1.stays hs (h.ma i p hp).2.1 (by simp), (hs.tag _ (h.ma i p hp).1.lt).trans (h.ma i p hp).2.1, Nat.le_trans (h.ma i p hp).2.2.1 hM, Nat.le_trans (h.ma i p hp).2.2.2 (by omega)⟩
  st := fun i p hp => ⟨(h.st i p hp).1.stays hs (by simp), (h.st i p hp).2.1, (h.st i p hp).2.2.1, (h.st i p hp).2.2.2.1, Nat.le_trans (h.st i p hp).2.2.2.2 hM⟩
  ta := fun i p hp => ⟨(h.ta i p hp).1.stays hs (by simp), (h.ta i p hp).2.1, Nat.le_trans (h.ta i p hp).2.2 hM⟩
  ls := fun i p hp => ⟨(h.ls i p hp).1.stays hs (by simp), (h.ls i p hp).2.stays hs (by simp)⟩
  old := fun g hg => (hs.tag g (Nat.lt_of_lt_of_le hg h.bsz)).trans (h.old g hg)
  two := h.two
  bsz := Nat.le_trans h.bsz hs.size
  kt := h.kt.below (hs.below h.bsz h.old (by simp)) h.two
  ht := h.ht.below (hs.below h.bsz h.old (by simp)) h.two
  bound := hbd
  sizes := hsz
theorem Inv.uma {T T' : Tags} {base B M M' : Nat} {σ : Sig} {w w' : World} (h : Inv T base B M σ w) (hM : M ≤ M') (v' : Value) (ma' : List MacR)
    (hs : Stays T T' w w' (fun c => c = (1, 0) ∨ c = (2, 7) ∨ c.1 = 33))
    (hw : At T' w' (1, 0) B 44 ({ σ with vma := v', ma := ma' } : Sig).cells)
    (nrma : RowT T' w' (2, 7) 73 3 v' ma'.length (ma'.flatMap maV))
    (nma : ∀ i p, ma'[i]? = some p → MRep w' p.b 142 p.key.data.toList p.l ∧ T' p.b = (33, i) ∧ p.l.length ≤ M' ∧ p.key.size ≤ M' + 65536)
    (hbd : M' ≤ 1073741824 ∧ ({ σ with vma := v', ma := ma' } : Sig).sp.length ≤ M' ∧ ({ σ with vma := v', ma := ma' } : Sig).si.length ≤ M' ∧ ({ σ with vma := v', ma := ma' } : Sig).so.length ≤ M' ∧ ({ σ with vma := v', ma := ma' } : Sig).ha.length ≤ M' ∧ ({ σ with vma := v', ma := ma' } : Sig).wo.length ≤ M' ∧ ({ σ with vma := v', ma := ma' } : Sig).re.length ≤ M' ∧ ({ σ with vma := v', ma := ma' } : Sig).ls.length ≤ M' ∧ ({ σ with vma := v', ma := ma' } : Sig).ma.length ≤ M' ∧ ({ σ with vma := v', ma := ma' } : Sig).st.length ≤ M' ∧ ({ σ with vma := v', ma := ma' } : Sig).ta.length ≤ M')
    (hsz : (∀ x ∈ ({ σ with vma := v', ma := ma' } : Sig).wo, x.size ≤ M' + 65536) ∧ (∀ x ∈ ({ σ with vma := v', ma := ma' } : Sig).re, x.size ≤ M' + 65536) ∧ (∀ p ∈ ({ σ with vma := v', ma := ma' } : Sig).ls, p.l.length ≤ M' ∧ ∀ x ∈ p.l, x.size ≤ M' + 65536) ∧ ({ σ with vma := v', ma := ma' } : Sig).file.size ≤ M' + 65536 ∧ ({ σ with vma := v', ma := ma' } : Sig).key.size ≤ M' + 65536 ∧ ({ σ with vma := v', ma := ma' } : Sig).nonce.size ≤ M' + 65536) :
    Inv T' base B M' { σ with vma := v', ma := ma' } w' where
  hw := hw
  rsp := h.rsp.stays hs (by simp)
  rsi := h.rsi.stays hs (by simp)
  rso := h.rso.stays hs (by simp)
  rha := h.rha.stays hs (by simp)
  rma := nrma
  rst := h.rst.stays hs (by simp)
  rta := h.rta.stays hs (by simp)
  rwo := h.rwo.stays hs (by simp)
  rre := h.rre.stays hs (by simp)
  rls := h.rls.stays hs (by simp)
  rlw := h.rlw.stays hs (by simp)
  sp := fun i p hp => ⟨(h.sp i p hp).1.stays hs (by simp), (h.sp i p hp).2.stays hs (by simp)⟩
  si := fun i p hp => ⟨⟨(h.si i p hp).1.1.stays hs (by simp), (h.si i p hp).1.2.stays hs (by simp)⟩, (h.si i p hp).2.1.stays hs (by simp), (h.si i p hp).2.2.stays hs (by simp)⟩
  so := fun i p hp => ⟨⟨(h.so i p hp).1.1.stays hs (by simp), (h.so i p hp).1.2.stays hs (by simp)⟩, (h.so i p hp).2.1.stays hs (by simp), (h.so i p hp).2.2.stays hs (by simp)⟩
  ha := fun i p hp => ⟨(h.ha i p hp).1.stays hs (h.ha i p hp).2.1 (by simp), (hs.tag _ (h.ha i p hp).1.lt).trans (h.ha i p hp).2.1, Nat.le_trans (h.ha i p hp).2.2 hM⟩
  ma := nma
  st := fun i p hp => ⟨(h.st i p hp).1.stays hs (by simp), (h.st i p hp).2.1, (h.st i p hp).2.2.1, (h.st i p hp).2.2.2.1, Nat.le_trans (h.st i p hp).2.2.2.2 hM⟩
  ta := fun i p hp => ⟨(h.ta i p hp).1.stays hs (by simp), (h.ta i p hp).2.1, Nat.le_trans (h.ta i p hp).2.2 hM⟩
  ls := fun i p hp => ⟨(h.ls i p hp).1.stays hs (by simp), (h.ls i p hp).2.stays hs (by simp)⟩
  old := fun g hg => (hs.tag g (Nat.lt_of_lt_of_le hg h.bsz)).trans (h.old g hg)
  two := h.two
  bsz := Nat.le_trans h.bsz hs.size
  kt := h.kt.below (hs.below h.bsz h.old (by simp)) h.two
  ht := h.ht.below (hs.below h.bsz h.old (by simp)) h.two
  bound := hbd
  sizes := hsz
theorem Inv.ust {T T' : Tags} {base B M M' : Nat} {σ : Sig} {w w' : World} (h : Inv T base B M σ w) (hM : M ≤ M') (v' : Value) (st' : List StrR)
    (hs : Stays T T' w w' (fun c => c = (1, 0) ∨ c = (2, 8) ∨ c.1 = 34))
    (hw : At T' w' (1, 0) B 44 ({ σ with vst := v', st := st' } : Sig).cells)
    (nrst : RowT T' w' (2, 8) 78 5 v' st'.length (st'.flatMap stV))
    (nst : ∀ i p, st'[i]? = some p → SRep T' w' (34, i) p.b p.key.data.toList p.nonce.data.toList p.n p.used ∧ p.key.size = 32 ∧ p.nonce.size = 12 ∧ p.n ≤ 4294967295 ∧ p.used ≤ M')
    (hbd : M' ≤ 1073741824 ∧ ({ σ with vst := v', st := st' } : Sig).sp.length ≤ M' ∧ ({ σ with vst := v', st := st' } : Sig).si.length ≤ M' ∧ ({ σ with vst := v', st := st' } : Sig).so.length ≤ M' ∧ ({ σ with vst := v', st := st' } : Sig).ha.length ≤ M' ∧ ({ σ with vst := v', st := st' } : Sig).wo.length ≤ M' ∧ ({ σ with vst := v', st := st' } : Sig).re.length ≤ M' ∧ ({ σ with vst := v', st := st' } : Sig).ls.length ≤ M' ∧ ({ σ with vst := v', st := st' } : Sig).ma.length ≤ M' ∧ ({ σ with vst := v', st := st' } : Sig).st.length ≤ M' ∧ ({ σ with vst := v', st := st' } : Sig).ta.length ≤ M')
    (hsz : (∀ x ∈ ({ σ with vst := v', st := st' } : Sig).wo, x.size ≤ M' + 65536) ∧ (∀ x ∈ ({ σ with vst := v', st := st' } : Sig).re, x.size ≤ M' + 65536) ∧ (∀ p ∈ ({ σ with vst := v', st := st' } : Sig).ls, p.l.length ≤ M' ∧ ∀ x ∈ p.l, x.size ≤ M' + 65536) ∧ ({ σ with vst := v', st := st' } : Sig).file.size ≤ M' + 65536 ∧ ({ σ with vst := v', st := st' } : Sig).key.size ≤ M' + 65536 ∧ ({ σ with vst := v', st := st' } : Sig).nonce.size ≤ M' + 65536) :
    Inv T' base B M' { σ with vst := v', st := st' } w' where
  hw := hw
  rsp := h.rsp.stays hs (by simp)
  rsi := h.rsi.stays hs (by simp)
  rso := h.rso.stays hs (by simp)
  rha := h.rha.stays hs (by simp)
  rma := h.rma.stays hs (by simp)
  rst := nrst
  rta := h.rta.stays hs (by simp)
  rwo := h.rwo.stays hs (by simp)
  rre := h.rre.stays hs (by simp)
  rls := h.rls.stays hs (by simp)
  rlw := h.rlw.stays hs (by simp)
  sp := fun i p hp => ⟨(h.sp i p hp).1.stays hs (by simp), (h.sp i p hp).2.stays hs (by simp)⟩
  si := fun i p hp => ⟨⟨(h.si i p hp).1.1.stays hs (by simp), (h.si i p hp).1.2.stays hs (by simp)⟩, (h.si i p hp).2.1.stays hs (by simp), (h.si i p hp).2.2.stays hs (by simp)⟩
  so := fun i p hp => ⟨⟨(h.so i p hp).1.1.stays hs (by simp), (h.so i p hp).1.2.stays hs (by simp)⟩, (h.so i p hp).2.1.stays hs (by simp), (h.so i p hp).2.2.stays hs (by simp)⟩
  ha := fun i p hp => ⟨(h.ha i p hp).1.stays hs (h.ha i p hp).2.1 (by simp), (hs.tag _ (h.ha i p hp).1.lt).trans (h.ha i p hp).2.1, Nat.le_trans (h.ha i p hp).2.2 hM⟩
  ma := fun i p hp => ⟨(h.ma i p hp).1.stays hs (h.ma i p hp).2.1 (by simp), (hs.tag _ (h.ma i p hp).1.lt).trans (h.ma i p hp).2.1, Nat.le_trans (h.ma i p hp).2.2.1 hM, Nat.le_trans (h.ma i p hp).2.2.2 (by omega)⟩
  st := nst
  ta := fun i p hp => ⟨(h.ta i p hp).1.stays hs (by simp), (h.ta i p hp).2.1, Nat.le_trans (h.ta i p hp).2.2 hM⟩
  ls := fun i p hp => ⟨(h.ls i p hp).1.stays hs (by simp), (h.ls i p hp).2.stays hs (by simp)⟩
  old := fun g hg => (hs.tag g (Nat.lt_of_lt_of_le hg h.bsz)).trans (h.old g hg)
  two := h.two
  bsz := Nat.le_trans h.bsz hs.size
  kt := h.kt.below (hs.below h.bsz h.old (by simp)) h.two
  ht := h.ht.below (hs.below h.bsz h.old (by simp)) h.two
  bound := hbd
  sizes := hsz
theorem Inv.uta {T T' : Tags} {base B M M' : Nat} {σ : Sig} {w w' : World} (h : Inv T base B M σ w) (hM : M ≤ M') (v' : Value) (ta' : List TagR)
    (hs : Stays T T' w w' (fun c => c = (1, 0) ∨ c = (2, 9) ∨ c.1 = 35))
    (hw : At T' w' (1, 0) B 44 ({ σ with vta := v', ta := ta' } : Sig).cells)
    (nrta : RowT T' w' (2, 9) 85 3 v' ta'.length (ta'.flatMap taV))
    (nta : ∀ i p, ta'[i]? = some p → TRep T' w' (35, i) p.b p.key.data.toList p.l ∧ p.key.size = 32 ∧ p.l.length ≤ M')
    (hbd : M' ≤ 1073741824 ∧ ({ σ with vta := v', ta := ta' } : Sig).sp.length ≤ M' ∧ ({ σ with vta := v', ta := ta' } : Sig).si.length ≤ M' ∧ ({ σ with vta := v', ta := ta' } : Sig).so.length ≤ M' ∧ ({ σ with vta := v', ta := ta' } : Sig).ha.length ≤ M' ∧ ({ σ with vta := v', ta := ta' } : Sig).wo.length ≤ M' ∧ ({ σ with vta := v', ta := ta' } : Sig).re.length ≤ M' ∧ ({ σ with vta := v', ta := ta' } : Sig).ls.length ≤ M' ∧ ({ σ with vta := v', ta := ta' } : Sig).ma.length ≤ M' ∧ ({ σ with vta := v', ta := ta' } : Sig).st.length ≤ M' ∧ ({ σ with vta := v', ta := ta' } : Sig).ta.length ≤ M')
    (hsz : (∀ x ∈ ({ σ with vta := v', ta := ta' } : Sig).wo, x.size ≤ M' + 65536) ∧ (∀ x ∈ ({ σ with vta := v', ta := ta' } : Sig).re, x.size ≤ M' + 65536) ∧ (∀ p ∈ ({ σ with vta := v', ta := ta' } : Sig).ls, p.l.length ≤ M' ∧ ∀ x ∈ p.l, x.size ≤ M' + 65536) ∧ ({ σ with vta := v', ta := ta' } : Sig).file.size ≤ M' + 65536 ∧ ({ σ with vta := v', ta := ta' } : Sig).key.size ≤ M' + 65536 ∧ ({ σ with vta := v', ta := ta' } : Sig).nonce.size ≤ M' + 65536) :
    Inv T' base B M' { σ with vta := v', ta := ta' } w' where
  hw := hw
  rsp := h.rsp.stays hs (by simp)
  rsi := h.rsi.stays hs (by simp)
  rso := h.rso.stays hs (by simp)
  rha := h.rha.stays hs (by simp)
  rma := h.rma.stays hs (by simp)
  rst := h.rst.stays hs (by simp)
  rta := nrta
  rwo := h.rwo.stays hs (by simp)
  rre := h.rre.stays hs (by simp)
  rls := h.rls.stays hs (by simp)
  rlw := h.rlw.stays hs (by simp)
  sp := fun i p hp => ⟨(h.sp i p hp).1.stays hs (by simp), (h.sp i p hp).2.stays hs (by simp)⟩
  si := fun i p hp => ⟨⟨(h.si i p hp).1.1.stays hs (by simp), (h.si i p hp).1.2.stays hs (by simp)⟩, (h.si i p hp).2.1.stays hs (by simp), (h.si i p hp).2.2.stays hs (by simp)⟩
  so := fun i p hp => ⟨⟨(h.so i p hp).1.1.stays hs (by simp), (h.so i p hp).1.2.stays hs (by simp)⟩, (h.so i p hp).2.1.stays hs (by simp), (h.so i p hp).2.2.stays hs (by simp)⟩
  ha := fun i p hp => ⟨(h.ha i p hp).1.stays hs (h.ha i p hp).2.1 (by simp), (hs.tag _ (h.ha i p hp).1.lt).trans (h.ha i p hp).2.1, Nat.le_trans (h.ha i p hp).2.2 hM⟩
  ma := fun i p hp => ⟨(h.ma i p hp).1.stays hs (h.ma i p hp).2.1 (by simp), (hs.tag _ (h.ma i p hp).1.lt).trans (h.ma i p hp).2.1, Nat.le_trans (h.ma i p hp).2.2.1 hM, Nat.le_trans (h.ma i p hp).2.2.2 (by omega)⟩
  st := fun i p hp => ⟨(h.st i p hp).1.stays hs (by simp), (h.st i p hp).2.1, (h.st i p hp).2.2.1, (h.st i p hp).2.2.2.1, Nat.le_trans (h.st i p hp).2.2.2.2 hM⟩
  ta := nta
  ls := fun i p hp => ⟨(h.ls i p hp).1.stays hs (by simp), (h.ls i p hp).2.stays hs (by simp)⟩
  old := fun g hg => (hs.tag g (Nat.lt_of_lt_of_le hg h.bsz)).trans (h.old g hg)
  two := h.two
  bsz := Nat.le_trans h.bsz hs.size
  kt := h.kt.below (hs.below h.bsz h.old (by simp)) h.two
  ht := h.ht.below (hs.below h.bsz h.old (by simp)) h.two
  bound := hbd
  sizes := hsz
theorem Inv.uls {T T' : Tags} {base B M M' : Nat} {σ : Sig} {w w' : World} (h : Inv T base B M σ w) (hM : M ≤ M') (v' u' : Value) (ls' : List ListR)
    (hs : Stays T T' w w' (fun c => c = (1, 0) ∨ c = (2, 15) ∨ c = (2, 16) ∨ c.1 = 31 ∨ c.1 = 32))
    (hw : At T' w' (1, 0) B 44 ({ σ with vls := v', vlw := u', ls := ls' } : Sig).cells)
    (nrls : RowT T' w' (2, 15) 41 1 v' ls'.length (ls'.map (·.v)))
    (nrlw : RowT T' w' (2, 16) 41 1 u' ls'.length (ls'.map (·.v2)))
    (nls : ∀ i p, ls'[i]? = some p → Lst T' w' (31, i) p.v p.l ∧ Lst T' w' (32, i) p.v2 p.l)
    (hbd : M' ≤ 1073741824 ∧ ({ σ with vls := v', vlw := u', ls := ls' } : Sig).sp.length ≤ M' ∧ ({ σ with vls := v', vlw := u', ls := ls' } : Sig).si.length ≤ M' ∧ ({ σ with vls := v', vlw := u', ls := ls' } : Sig).so.length ≤ M' ∧ ({ σ with vls := v', vlw := u', ls := ls' } : Sig).ha.length ≤ M' ∧ ({ σ with vls := v', vlw := u', ls := ls' } : Sig).wo.length ≤ M' ∧ ({ σ with vls := v', vlw := u', ls := ls' } : Sig).re.length ≤ M' ∧ ({ σ with vls := v', vlw := u', ls := ls' } : Sig).ls.length ≤ M' ∧ ({ σ with vls := v', vlw := u', ls := ls' } : Sig).ma.length ≤ M' ∧ ({ σ with vls := v', vlw := u', ls := ls' } : Sig).st.length ≤ M' ∧ ({ σ with vls := v', vlw := u', ls := ls' } : Sig).ta.length ≤ M')
    (hsz : (∀ x ∈ ({ σ with vls := v', vlw := u', ls := ls' } : Sig).wo, x.size ≤ M' + 65536) ∧ (∀ x ∈ ({ σ with vls := v', vlw := u', ls := ls' } : Sig).re, x.size ≤ M' + 65536) ∧ (∀ p ∈ ({ σ with vls := v', vlw := u', ls := ls' } : Sig).ls, p.l.length ≤ M' ∧ ∀ x ∈ p.l, x.size ≤ M' + 65536) ∧ ({ σ with vls := v', vlw := u', ls := ls' } : Sig).file.size ≤ M' + 65536 ∧ ({ σ with vls := v', vlw := u', ls := ls' } : Sig).key.size ≤ M' + 65536 ∧ ({ σ with vls := v', vlw := u', ls := ls' } : Sig).nonce.size ≤ M' + 65536) :
    Inv T' base B M' { σ with vls := v', vlw := u', ls := ls' } w' where
  hw := hw
  rsp := h.rsp.stays hs (by simp)
  rsi := h.rsi.stays hs (by simp)
  rso := h.rso.stays hs (by simp)
  rha := h.rha.stays hs (by simp)
  rma := h.rma.stays hs (by simp)
  rst := h.rst.stays hs (by simp)
  rta := h.rta.stays hs (by simp)
  rwo := h.rwo.stays hs (by simp)
  rre := h.rre.stays hs (by simp)
  rls := nrls
  rlw := nrlw
  sp := fun i p hp => ⟨(h.sp i p hp).1.stays hs (by simp), (h.sp i p hp).2.stays hs (by simp)⟩
  si := fun i p hp => ⟨⟨(h.si i p hp).1.1.stays hs (by simp), (h.si i p hp).1.2.stays hs (by simp)⟩, (h.si i p hp).2.1.stays hs (by simp), (h.si i p hp).2.2.stays hs (by simp)⟩
  so := fun i p hp => ⟨⟨(h.so i p hp).1.1.stays hs (by simp), (h.so i p hp).1.2.stays hs (by simp)⟩, (h.so i p hp).2.1.stays hs (by simp), (h.so i p hp).2.2.stays hs (by simp)⟩
  ha := fun i p hp => ⟨(h.ha i p hp).1.stays hs (h.ha i p hp).2.1 (by simp), (hs.tag _ (h.ha i p hp).1.lt).trans (h.ha i p hp).2.1, Nat.le_trans (h.ha i p hp).2.2 hM⟩
  ma := fun i p hp => ⟨(h.ma i p hp).1.stays hs (h.ma i p hp).2.1 (by simp), (hs.tag _ (h.ma i p hp).1.lt).trans (h.ma i p hp).2.1, Nat.le_trans (h.ma i p hp).2.2.1 hM, Nat.le_trans (h.ma i p hp).2.2.2 (by omega)⟩
  st := fun i p hp => ⟨(h.st i p hp).1.stays hs (by simp), (h.st i p hp).2.1, (h.st i p hp).2.2.1, (h.st i p hp).2.2.2.1, Nat.le_trans (h.st i p hp).2.2.2.2 hM⟩
  ta := fun i p hp => ⟨(h.ta i p hp).1.stays hs (by simp), (h.ta i p hp).2.1, Nat.le_trans (h.ta i p hp).2.2 hM⟩
  ls := nls
  old := fun g hg => (hs.tag g (Nat.lt_of_lt_of_le hg h.bsz)).trans (h.old g hg)
  two := h.two
  bsz := Nat.le_trans h.bsz hs.size
  kt := h.kt.below (hs.below h.bsz h.old (by simp)) h.two
  ht := h.ht.below (hs.below h.bsz h.old (by simp)) h.two
  bound := hbd
  sizes := hsz
theorem Inv.usi {T T' : Tags} {base B M M' : Nat} {σ : Sig} {w w' : World} (h : Inv T base B M σ w) (hM : M ≤ M') (v' : Value) (si' : List SinkR)
    (hs : Stays T T' w w' (fun c => c = (1, 0) ∨ c = (2, 1)))
    (hw : At T' w' (1, 0) B 44 ({ σ with vsi := v', si := si' } : Sig).cells)
    (nrsi : RowT T' w' (2, 1) 96 2 v' si'.length (si'.flatMap fun p => ptrs p.bx p.bm))
    (nsi : ∀ i p, si'[i]? = some p → (At T' w' (22, i) p.bx 173 (p.cells p.gx) ∧ At T' w' (23, i) p.gx 3 (intV p.plan)) ∧ At T' w' (24, i) p.bm 173 (p.cells p.gm) ∧ At T' w' (25, i) p.gm 3 (intV p.plan))
    (hbd : M' ≤ 1073741824 ∧ ({ σ with vsi := v', si := si' } : Sig).sp.length ≤ M' ∧ ({ σ with vsi := v', si := si' } : Sig).si.length ≤ M' ∧ ({ σ with vsi := v', si := si' } : Sig).so.length ≤ M' ∧ ({ σ with vsi := v', si := si' } : Sig).ha.length ≤ M' ∧ ({ σ with vsi := v', si := si' } : Sig).wo.length ≤ M' ∧ ({ σ with vsi := v', si := si' } : Sig).re.length ≤ M' ∧ ({ σ with vsi := v', si := si' } : Sig).ls.length ≤ M' ∧ ({ σ with vsi := v', si := si' } : Sig).ma.length ≤ M' ∧ ({ σ with vsi := v', si := si' } : Sig).st.length ≤ M' ∧ ({ σ with vsi := v', si := si' } : Sig).ta.length ≤ M')
    (hsz : (∀ x ∈ ({ σ with vsi := v', si := si' } : Sig).wo, x.size ≤ M' + 65536) ∧ (∀ x ∈ ({ σ with vsi := v', si := si' } : Sig).re, x.size ≤ M' + 65536) ∧ (∀ p ∈ ({ σ with vsi := v', si := si' } : Sig).ls, p.l.length ≤ M' ∧ ∀ x ∈ p.l, x.size ≤ M' + 65536) ∧ ({ σ with vsi := v', si := si' } : Sig).file.size ≤ M' + 65536 ∧ ({ σ with vsi := v', si := si' } : Sig).key.size ≤ M' + 65536 ∧ ({ σ with vsi := v', si := si' } : Sig).nonce.size ≤ M' + 65536) :
    Inv T' base B M' { σ with vsi := v', si := si' } w' where
  hw := hw
  rsp := h.rsp.stays hs (by simp)
  rsi := nrsi
  rso := h.rso.stays hs (by simp)
  rha := h.rha.stays hs (by simp)
  rma := h.rma.stays hs (by simp)
  rst := h.rst.stays hs (by simp)
  rta := h.rta.stays hs (by simp)
  rwo := h.rwo.stays hs (by simp)
  rre := h.rre.stays hs (by simp)
  rls := h.rls.stays hs (by simp)
  rlw := h.rlw.stays hs (by simp)
  sp := fun i p hp => ⟨(h.sp i p hp).1.stays hs (by simp), (h.sp i p hp).2.stays hs (by simp)⟩
  si := nsi
  so := fun i p hp => ⟨⟨(h.so i p hp).1.1.stays hs (by simp), (h.so i p hp).1.2.stays hs (by simp)⟩, (h.so i p hp).2.1.stays hs (by simp), (h.so i p hp).2.2.stays hs (by simp)⟩
  ha := fun i p hp => ⟨(h.ha i p hp).1.stays hs (h.ha i p hp).2.1 (by simp), (hs.tag _ (h.ha i p hp).1.lt).trans (h.ha i p hp).2.1, Nat.le_trans (h.ha i p hp).2.2 hM⟩
  ma := fun i p hp => ⟨(h.ma i p hp).1.stays hs (h.ma i p hp).2.1 (by simp), (hs.tag _ (h.ma i p hp).1.lt).trans (h.ma i p hp).2.1, Nat.le_trans (h.ma i p hp).2.2.1 hM, Nat.le_trans (h.ma i p hp).2.2.2 (by omega)⟩
  st := fun i p hp => ⟨(h.st i p hp).1.stays hs (by simp), (h.st i p hp).2.1, (h.st i p hp).2.2.1, (h.st i p hp).2.2.2.1, Nat.le_trans (h.st i p hp).2.2.2.2 hM⟩
  ta := fun i p hp => ⟨(h.ta i p hp).1.stays hs (by simp), (h.ta i p hp).2.1, Nat.le_trans (h.ta i p hp).2.2 hM⟩
  ls := fun i p hp => ⟨(h.ls i p hp).1.stays hs (by simp), (h.ls i p hp).2.stays hs (by simp)⟩
  old := fun g hg => (hs.tag g (Nat.lt_of_lt_of_le hg h.bsz)).trans (h.old g hg)
  two := h.two
  bsz := Nat.le_trans h.bsz hs.size
  kt := h.kt.below (hs.below h.bsz h.old (by simp)) h.two
  ht := h.ht.below (hs.below h.bsz h.old (by simp)) h.two
  bound := hbd
  sizes := hsz
theorem Inv.uso {T T' : Tags} {base B M M' : Nat} {σ : Sig} {w w' : World} (h : Inv T base B M σ w) (hM : M ≤ M') (v' : Value) (so' : List SourceR)
    (hs : Stays T T' w w' (fun c => c = (1, 0) ∨ c = (2, 2)))
    (hw : At T' w' (1, 0) B 44 ({ σ with vso := v', so := so' } : Sig).cells)
    (nrso : RowT T' w' (2, 2) 100 2 v' so'.length (so'.flatMap fun p => ptrs p.bx p.bm))
    (nso : ∀ i p, so'[i]? = some p → (At T' w' (26, i) p.bx 175 (p.cells p.gx) ∧ At T' w' (27, i) p.gx 3 (intV p.plan)) ∧ At T' w' (28, i) p.bm 175 (p.cells p.gm) ∧ At T' w' (29, i) p.gm 3 (intV p.plan))
    (hbd : M' ≤ 1073741824 ∧ ({ σ with vso := v', so := so' } : Sig).sp.length ≤ M' ∧ ({ σ with vso := v', so := so' } : Sig).si.length ≤ M' ∧ ({ σ with vso := v', so := so' } : Sig).so.length ≤ M' ∧ ({ σ with vso := v', so := so' } : Sig).ha.length ≤ M' ∧ ({ σ with vso := v', so := so' } : Sig).wo.length ≤ M' ∧ ({ σ with vso := v', so := so' } : Sig).re.length ≤ M' ∧ ({ σ with vso := v', so := so' } : Sig).ls.length ≤ M' ∧ ({ σ with vso := v', so := so' } : Sig).ma.length ≤ M' ∧ ({ σ with vso := v', so := so' } : Sig).st.length ≤ M' ∧ ({ σ with vso := v', so := so' } : Sig).ta.length ≤ M')
    (hsz : (∀ x ∈ ({ σ with vso := v', so := so' } : Sig).wo, x.size ≤ M' + 65536) ∧ (∀ x ∈ ({ σ with vso := v', so := so' } : Sig).re, x.size ≤ M' + 65536) ∧ (∀ p ∈ ({ σ with vso := v', so := so' } : Sig).ls, p.l.length ≤ M' ∧ ∀ x ∈ p.l, x.size ≤ M' + 65536) ∧ ({ σ with vso := v', so := so' } : Sig).file.size ≤ M' + 65536 ∧ ({ σ with vso := v', so := so' } : Sig).key.size ≤ M' + 65536 ∧ ({ σ with vso := v', so := so' } : Sig).nonce.size ≤ M' + 65536) :
    Inv T' base B M' { σ with vso := v', so := so' } w' where
  hw := hw
  rsp := h.rsp.stays hs (by simp)
  rsi := h.rsi.stays hs (by simp)
  rso := nrso
  rha := h.rha.stays hs (by simp)
  rma := h.rma.stays hs (by simp)
  rst := h.rst.stays hs (by simp)
  rta := h.rta.stays hs (by simp)
  rwo := h.rwo.stays hs (by simp)
  rre := h.rre.stays hs (by simp)
  rls := h.rls.stays hs (by simp)
  rlw := h.rlw.stays hs (by simp)
  sp := fun i p hp => ⟨(h.sp i p hp).1.stays hs (by simp), (h.sp i p hp).2.stays hs (by simp)⟩
  si := fun i p hp => ⟨⟨(h.si i p hp).1.1.stays hs (by simp), (h.si i p hp).1.2.stays hs (by simp)⟩, (h.si i p hp).2.1.stays hs (by simp), (h.si i p hp).2.2.stays hs (by simp)⟩
  so := nso
  ha := fun i p hp => ⟨(h.ha i p hp).1.stays hs (h.ha i p hp).2.1 (by simp), (hs.tag _ (h.ha i p hp).1.lt).trans (h.ha i p hp).2.1, Nat.le_trans (h.ha i p hp).2.2 hM⟩
  ma := fun i p hp => ⟨(h.ma i p hp).1.stays hs (h.ma i p hp).2.1 (by simp), (hs.tag _ (h.ma i p hp).1.lt).trans (h.ma i p hp).2.1, Nat.le_trans (h.ma i p hp).2.2.1 hM, Nat.le_trans (h.ma i p hp).2.2.2 (by omega)⟩
  st := fun i p hp => ⟨(h.st i p hp).1.stays hs (by simp), (h.st i p hp).2.1, (h.st i p hp).2.2.1, (h.st i p hp).2.2.2.1, Nat.le_trans (h.st i p hp).2.2.2.2 hM⟩
  ta := fun i p hp => ⟨(h.ta i p hp).1.stays hs (by simp), (h.ta i p hp).2.1, Nat.le_trans (h.ta i p hp).2.2 hM⟩
  ls := fun i p hp => ⟨(h.ls i p hp).1.stays hs (by simp), (h.ls i p hp).2.stays hs (by simp)⟩
  old := fun g hg => (hs.tag g (Nat.lt_of_lt_of_le hg h.bsz)).trans (h.old g hg)
  two := h.two
  bsz := Nat.le_trans h.bsz hs.size
  kt := h.kt.below (hs.below h.bsz h.old (by simp)) h.two
  ht := h.ht.below (hs.below h.bsz h.old (by simp)) h.two
  bound := hbd
  sizes := hsz
end Go.Proofs.YtfidnpchkfpoeaaGreatDoor
