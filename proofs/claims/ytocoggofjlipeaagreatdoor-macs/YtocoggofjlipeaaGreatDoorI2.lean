import Derived.Test.YtocoggofjlipeaaGreatDoorI1
namespace Go.Proofs.YtocoggofjlipeaaGreatDoor
open Go.RowKit
theorem HRep.stays {T T' : Tags} {w w' : World} {S : Nat × Nat → Prop} {c : Nat × Nat} {b : Nat} {t : TypeId} {pre post : List Value} {l : List UInt8} (h : HRep w b t pre post l) (hs : Stays T T' w w' S) (ht : T b = c) (hc : ¬ S c) : HRep w' b t pre post l := by
  obtain ⟨k, h1, h2, h3⟩ := h
  refine ⟨k, h1, h2, ?_⟩
  unfold Blk
  rw [hs.block b h3.lt (by rw [ht]; exact hc)]
  exact h3
theorem MRep.lt {w : World} {b : Nat} {t : TypeId} {key l : List UInt8} (h : MRep w b t key l) : b < w.heap.size := by
  obtain ⟨ci, co, _, _, h, _⟩ := h
  exact h.lt
theorem MRep.stays {T T' : Tags} {w w' : World} {S : Nat × Nat → Prop} {c : Nat × Nat} {b : Nat} {t : TypeId} {key l : List UInt8} (h : MRep w b t key l) (hs : Stays T T' w w' S) (ht : T b = c) (hc : ¬ S c) : MRep w' b t key l := by
  obtain ⟨ci, co, h1, h2, h3, h4⟩ := h
  exact ⟨ci, co, h1, h2, h3.stays hs ht hc, h4.stays hs ht hc⟩
theorem Inv.uwo {T T' : Tags} {base B M M' : Nat} {σ : Sig} {w w' : World} (h : Inv T base B M σ w) (hM : M ≤ M') (v' : Value) (wo' : List ByteArray)
    (hs : Stays T T' w w' (fun c => c = (1, 0) ∨ c = (2, 10)))
    (hw : At T' w' (1, 0) B 44 ({ σ with vwo := v', wo := wo' } : Sig).cells)
    (nrwo : RowT T' w' (2, 10) 9 1 v' wo'.length (strV wo'))
    (hbd : M' ≤ 1073741824 ∧ ({ σ with vwo := v', wo := wo' } : Sig).sp.length ≤ M' ∧ ({ σ with vwo := v', wo := wo' } : Sig).si.length ≤ M' ∧ ({ σ with vwo := v', wo := wo' } : Sig).so.length ≤ M' ∧ ({ σ with vwo := v', wo := wo' } : Sig).ha.length ≤ M' ∧ ({ σ with vwo := v', wo := wo' } : Sig).wo.length ≤ M' ∧ ({ σ with vwo := v', wo := wo' } : Sig).re.length ≤ M' ∧ ({ σ with vwo := v', wo := wo' } : Sig).ls.length ≤ M' ∧ ({ σ with vwo := v', wo := wo' } : Sig).ma.length ≤ M')
    (hsz : (∀ x ∈ ({ σ with vwo := v', wo := wo' } : Sig).wo, x.size ≤ M' + 65536) ∧ (∀ x ∈ ({ σ with vwo := v', wo := wo' } : Sig).re, x.size ≤ M' + 65536) ∧ (∀ p ∈ ({ σ with vwo := v', wo := wo' } : Sig).ls, p.l.length ≤ M' ∧ ∀ x ∈ p.l, x.size ≤ M' + 65536) ∧ ({ σ with vwo := v', wo := wo' } : Sig).file.size ≤ M' + 65536 ∧ ({ σ with vwo := v', wo := wo' } : Sig).key.size ≤ M' + 65536 ∧ ({ σ with vwo := v', wo := wo' } : Sig).nonce.size ≤ M' + 65536) :
    Inv T' base B M' { σ with vwo := v', wo := wo' } w' where
  hw := hw
  rsp := h.rsp.stays hs (by simp)
  rsi := h.rsi.stays hs (by simp)
  rso := h.rso.stays hs (by simp)
  rha := h.rha.stays hs (by simp)
  rma := h.rma.stays hs (by simp)
  rwo := nrwo
  rre := h.rre.stays hs (by simp)
  rls := h.rls.stays hs (by simp)
  rlw := h.rlw.stays hs (by simp)
  sp := fun i p hp => ⟨(h.sp i p hp).1.stays hs (by simp), (h.sp i p hp).2.stays hs (by simp)⟩
  si := fun i p hp => ⟨⟨(h.si i p hp).1.1.stays hs (by simp), (h.si i p hp).1.2.stays hs (by simp)⟩, (h.si i p hp).2.1.stays hs (by simp), (h.si i p hp).2.2.stays hs (by simp)⟩
  so := fun i p hp => ⟨⟨(h.so i p hp).1.1.stays hs (by simp), (h.so i p hp).1.2.stays hs (by simp)⟩, (h.so i p hp).2.1.stays hs (by simp), (h.so i p hp).2.2.stays hs (by simp)⟩
  ha := fun i p hp => ⟨(h.ha i p hp).1.stays hs (h.ha i p hp).2.1 (by simp), (hs.tag _ (h.ha i p hp).1.lt).trans (h.ha i p hp).2.1, Nat.le_trans (h.ha i p hp).2.2 hM⟩
  ma := fun i p hp => ⟨(h.ma i p hp).1.stays hs (h.ma i p hp).2.1 (by simp), (hs.tag _ (h.ma i p hp).1.lt).trans (h.ma i p hp).2.1, Nat.le_trans (h.ma i p hp).2.2.1 hM, Nat.le_trans (h.ma i p hp).2.2.2 (by omega)⟩
  ls := fun i p hp => ⟨(h.ls i p hp).1.stays hs (by simp), (h.ls i p hp).2.stays hs (by simp)⟩
  old := fun g hg => (hs.tag g (Nat.lt_of_lt_of_le hg h.bsz)).trans (h.old g hg)
  two := h.two
  bsz := Nat.le_trans h.bsz hs.size
  kt := h.kt.below (hs.below h.bsz h.old (by simp)) h.two
  ht := h.ht.below (hs.below h.bsz h.old (by simp)) h.two
  bound := hbd
  sizes := hsz
theorem Inv.uscal {T T' : Tags} {base B M M' : Nat} {σ : Sig} {w w' : World} (h : Inv T base B M σ w) (hM : M ≤ M') (f' k' n' : ByteArray) (a' b' c' : Int)
    (hs : Stays T T' w w' (fun c => c = (1, 0)))
    (hw : At T' w' (1, 0) B 44 ({ σ with file := f', key := k', nonce := n', fr := a', n := b', ex := c' } : Sig).cells)
    (hbd : M' ≤ 1073741824 ∧ ({ σ with file := f', key := k', nonce := n', fr := a', n := b', ex := c' } : Sig).sp.length ≤ M' ∧ ({ σ with file := f', key := k', nonce := n', fr := a', n := b', ex := c' } : Sig).si.length ≤ M' ∧ ({ σ with file := f', key := k', nonce := n', fr := a', n := b', ex := c' } : Sig).so.length ≤ M' ∧ ({ σ with file := f', key := k', nonce := n', fr := a', n := b', ex := c' } : Sig).ha.length ≤ M' ∧ ({ σ with file := f', key := k', nonce := n', fr := a', n := b', ex := c' } : Sig).wo.length ≤ M' ∧ ({ σ with file := f', key := k', nonce := n', fr := a', n := b', ex := c' } : Sig).re.length ≤ M' ∧ ({ σ with file := f', key := k', nonce := n', fr := a', n := b', ex := c' } : Sig).ls.length ≤ M' ∧ ({ σ with file := f', key := k', nonce := n', fr := a', n := b', ex := c' } : Sig).ma.length ≤ M')
    (hsz : (∀ x ∈ ({ σ with file := f', key := k', nonce := n', fr := a', n := b', ex := c' } : Sig).wo, x.size ≤ M' + 65536) ∧ (∀ x ∈ ({ σ with file := f', key := k', nonce := n', fr := a', n := b', ex := c' } : Sig).re, x.size ≤ M' + 65536) ∧ (∀ p ∈ ({ σ with file := f', key := k', nonce := n', fr := a', n := b', ex := c' } : Sig).ls, p.l.length ≤ M' ∧ ∀ x ∈ p.l, x.size ≤ M' + 65536) ∧ ({ σ with file := f', key := k', nonce := n', fr := a', n := b', ex := c' } : Sig).file.size ≤ M' + 65536 ∧ ({ σ with file := f', key := k', nonce := n', fr := a', n := b', ex := c' } : Sig).key.size ≤ M' + 65536 ∧ ({ σ with file := f', key := k', nonce := n', fr := a', n := b', ex := c' } : Sig).nonce.size ≤ M' + 65536) :
    Inv T' base B M' { σ with file := f', key := k', nonce := n', fr := a', n := b', ex := c' } w' where
  hw := hw
  rsp := h.rsp.stays hs (by simp)
  rsi := h.rsi.stays hs (by simp)
  rso := h.rso.stays hs (by simp)
  rha := h.rha.stays hs (by simp)
  rma := h.rma.stays hs (by simp)
  rwo := h.rwo.stays hs (by simp)
  rre := h.rre.stays hs (by simp)
  rls := h.rls.stays hs (by simp)
  rlw := h.rlw.stays hs (by simp)
  sp := fun i p hp => ⟨(h.sp i p hp).1.stays hs (by simp), (h.sp i p hp).2.stays hs (by simp)⟩
  si := fun i p hp => ⟨⟨(h.si i p hp).1.1.stays hs (by simp), (h.si i p hp).1.2.stays hs (by simp)⟩, (h.si i p hp).2.1.stays hs (by simp), (h.si i p hp).2.2.stays hs (by simp)⟩
  so := fun i p hp => ⟨⟨(h.so i p hp).1.1.stays hs (by simp), (h.so i p hp).1.2.stays hs (by simp)⟩, (h.so i p hp).2.1.stays hs (by simp), (h.so i p hp).2.2.stays hs (by simp)⟩
  ha := fun i p hp => ⟨(h.ha i p hp).1.stays hs (h.ha i p hp).2.1 (by simp), (hs.tag _ (h.ha i p hp).1.lt).trans (h.ha i p hp).2.1, Nat.le_trans (h.ha i p hp).2.2 hM⟩
  ma := fun i p hp => ⟨(h.ma i p hp).1.stays hs (h.ma i p hp).2.1 (by simp), (hs.tag _ (h.ma i p hp).1.lt).trans (h.ma i p hp).2.1, Nat.le_trans (h.ma i p hp).2.2.1 hM, Nat.le_trans (h.ma i p hp).2.2.2 (by omega)⟩
  ls := fun i p hp => ⟨(h.ls i p hp).1.stays hs (by simp), (h.ls i p hp).2.stays hs (by simp)⟩
  old := fun g hg => (hs.tag g (Nat.lt_of_lt_of_le hg h.bsz)).trans (h.old g hg)
  two := h.two
  bsz := Nat.le_trans h.bsz hs.size
  kt := h.kt.below (hs.below h.bsz h.old (by simp)) h.two
  ht := h.ht.below (hs.below h.bsz h.old (by simp)) h.two
  bound := hbd
  sizes := hsz
theorem Inv.ure {T T' : Tags} {base B M M' : Nat} {σ : Sig} {w w' : World} (h : Inv T base B M σ w) (hM : M ≤ M') (v' : Value) (re' : List ByteArray)
    (hs : Stays T T' w w' (fun c => c = (1, 0) ∨ c = (2, 14)))
    (hw : At T' w' (1, 0) B 44 ({ σ with vre := v', re := re' } : Sig).cells)
    (nrre : RowT T' w' (2, 14) 9 1 v' re'.length (strV re'))
    (hbd : M' ≤ 1073741824 ∧ ({ σ with vre := v', re := re' } : Sig).sp.length ≤ M' ∧ ({ σ with vre := v', re := re' } : Sig).si.length ≤ M' ∧ ({ σ with vre := v', re := re' } : Sig).so.length ≤ M' ∧ ({ σ with vre := v', re := re' } : Sig).ha.length ≤ M' ∧ ({ σ with vre := v', re := re' } : Sig).wo.length ≤ M' ∧ ({ σ with vre := v', re := re' } : Sig).re.length ≤ M' ∧ ({ σ with vre := v', re := re' } : Sig).ls.length ≤ M' ∧ ({ σ with vre := v', re := re' } : Sig).ma.length ≤ M')
    (hsz : (∀ x ∈ ({ σ with vre := v', re := re' } : Sig).wo, x.size ≤ M' + 65536) ∧ (∀ x ∈ ({ σ with vre := v', re := re' } : Sig).re, x.size ≤ M' + 65536) ∧ (∀ p ∈ ({ σ with vre := v', re := re' } : Sig).ls, p.l.length ≤ M' ∧ ∀ x ∈ p.l, x.size ≤ M' + 65536) ∧ ({ σ with vre := v', re := re' } : Sig).file.size ≤ M' + 65536 ∧ ({ σ with vre := v', re := re' } : Sig).key.size ≤ M' + 65536 ∧ ({ σ with vre := v', re := re' } : Sig).nonce.size ≤ M' + 65536) :
    Inv T' base B M' { σ with vre := v', re := re' } w' where
  hw := hw
  rsp := h.rsp.stays hs (by simp)
  rsi := h.rsi.stays hs (by simp)
  rso := h.rso.stays hs (by simp)
  rha := h.rha.stays hs (by simp)
  rma := h.rma.stays hs (by simp)
  rwo := h.rwo.stays hs (by simp)
  rre := nrre
  rls := h.rls.stays hs (by simp)
  rlw := h.rlw.stays hs (by simp)
  sp := fun i p hp => ⟨(h.sp i p hp).1.stays hs (by simp), (h.sp i p hp).2.stays hs (by simp)⟩
  si := fun i p hp => ⟨⟨(h.si i p hp).1.1.stays hs (by simp), (h.si i p hp).1.2.stays hs (by simp)⟩, (h.si i p hp).2.1.stays hs (by simp), (h.si i p hp).2.2.stays hs (by simp)⟩
  so := fun i p hp => ⟨⟨(h.so i p hp).1.1.stays hs (by simp), (h.so i p hp).1.2.stays hs (by simp)⟩, (h.so i p hp).2.1.stays hs (by simp), (h.so i p hp).2.2.stays hs (by simp)⟩
  ha := fun i p hp => ⟨(h.ha i p hp).1.stays hs (h.ha i p hp).2.1 (by simp), (hs.tag _ (h.ha i p hp).1.lt).trans (h.ha i p hp).2.1, Nat.le_trans (h.ha i p hp).2.2 hM⟩
  ma := fun i p hp => ⟨(h.ma i p hp).1.stays hs (h.ma i p hp).2.1 (by simp), (hs.tag _ (h.ma i p hp).1.lt).trans (h.ma i p hp).2.1, Nat.le_trans (h.ma i p hp).2.2.1 hM, Nat.le_trans (h.ma i p hp).2.2.2 (by omega)⟩
  ls := fun i p hp => ⟨(h.ls i p hp).1.stays hs (by simp), (h.ls i p hp).2.stays hs (by simp)⟩
  old := fun g hg => (hs.tag g (Nat.lt_of_lt_of_le hg h.bsz)).trans (h.old g hg)
  two := h.two
  bsz := Nat.le_trans h.bsz hs.size
  kt := h.kt.below (hs.below h.bsz h.old (by simp)) h.two
  ht := h.ht.below (hs.below h.bsz h.old (by simp)) h.two
  bound := hbd
  sizes := hsz
theorem Inv.usp {T T' : Tags} {base B M M' : Nat} {σ : Sig} {w w' : World} (h : Inv T base B M σ w) (hM : M ≤ M') (v' : Value) (sp' : List SpringR)
    (hs : Stays T T' w w' (fun c => c = (1, 0) ∨ c = (2, 0)))
    (hw : At T' w' (1, 0) B 44 ({ σ with vsp := v', sp := sp' } : Sig).cells)
    (nrsp : RowT T' w' (2, 0) 91 2 v' sp'.length (sp'.flatMap fun p => ptrs p.bx p.bm))
    (nsp : ∀ i p, sp'[i]? = some p → At T' w' (20, i) p.bx 157 p.cells ∧ At T' w' (21, i) p.bm 157 p.cells)
    (hbd : M' ≤ 1073741824 ∧ ({ σ with vsp := v', sp := sp' } : Sig).sp.length ≤ M' ∧ ({ σ with vsp := v', sp := sp' } : Sig).si.length ≤ M' ∧ ({ σ with vsp := v', sp := sp' } : Sig).so.length ≤ M' ∧ ({ σ with vsp := v', sp := sp' } : Sig).ha.length ≤ M' ∧ ({ σ with vsp := v', sp := sp' } : Sig).wo.length ≤ M' ∧ ({ σ with vsp := v', sp := sp' } : Sig).re.length ≤ M' ∧ ({ σ with vsp := v', sp := sp' } : Sig).ls.length ≤ M' ∧ ({ σ with vsp := v', sp := sp' } : Sig).ma.length ≤ M')
    (hsz : (∀ x ∈ ({ σ with vsp := v', sp := sp' } : Sig).wo, x.size ≤ M' + 65536) ∧ (∀ x ∈ ({ σ with vsp := v', sp := sp' } : Sig).re, x.size ≤ M' + 65536) ∧ (∀ p ∈ ({ σ with vsp := v', sp := sp' } : Sig).ls, p.l.length ≤ M' ∧ ∀ x ∈ p.l, x.size ≤ M' + 65536) ∧ ({ σ with vsp := v', sp := sp' } : Sig).file.size ≤ M' + 65536 ∧ ({ σ with vsp := v', sp := sp' } : Sig).key.size ≤ M' + 65536 ∧ ({ σ with vsp := v', sp := sp' } : Sig).nonce.size ≤ M' + 65536) :
    Inv T' base B M' { σ with vsp := v', sp := sp' } w' where
  hw := hw
  rsp := nrsp
  rsi := h.rsi.stays hs (by simp)
  rso := h.rso.stays hs (by simp)
  rha := h.rha.stays hs (by simp)
  rma := h.rma.stays hs (by simp)
  rwo := h.rwo.stays hs (by simp)
  rre := h.rre.stays hs (by simp)
  rls := h.rls.stays hs (by simp)
  rlw := h.rlw.stays hs (by simp)
  sp := nsp
  si := fun i p hp => ⟨⟨(h.si i p hp).1.1.stays hs (by simp), (h.si i p hp).1.2.stays hs (by simp)⟩, (h.si i p hp).2.1.stays hs (by simp), (h.si i p hp).2.2.stays hs (by simp)⟩
  so := fun i p hp => ⟨⟨(h.so i p hp).1.1.stays hs (by simp), (h.so i p hp).1.2.stays hs (by simp)⟩, (h.so i p hp).2.1.stays hs (by simp), (h.so i p hp).2.2.stays hs (by simp)⟩
  ha := fun i p hp => ⟨(h.ha i p hp).1.stays hs (h.ha i p hp).2.1 (by simp), (hs.tag _ (h.ha i p hp).1.lt).trans (h.ha i p hp).2.1, Nat.le_trans (h.ha i p hp).2.2 hM⟩
  ma := fun i p hp => ⟨(h.ma i p hp).1.stays hs (h.ma i p hp).2.1 (by simp), (hs.tag _ (h.ma i p hp).1.lt).trans (h.ma i p hp).2.1, Nat.le_trans (h.ma i p hp).2.2.1 hM, Nat.le_trans (h.ma i p hp).2.2.2 (by omega)⟩
  ls := fun i p hp => ⟨(h.ls i p hp).1.stays hs (by simp), (h.ls i p hp).2.stays hs (by simp)⟩
  old := fun g hg => (hs.tag g (Nat.lt_of_lt_of_le hg h.bsz)).trans (h.old g hg)
  two := h.two
  bsz := Nat.le_trans h.bsz hs.size
  kt := h.kt.below (hs.below h.bsz h.old (by simp)) h.two
  ht := h.ht.below (hs.below h.bsz h.old (by simp)) h.two
  bound := hbd
  sizes := hsz
theorem Inv.uha {T T' : Tags} {base B M M' : Nat} {σ : Sig} {w w' : World} (h : Inv T base B M σ w) (hM : M ≤ M') (v' : Value) (ha' : List HashR)
    (hs : Stays T T' w w' (fun c => c = (1, 0) ∨ c = (2, 6) ∨ c.1 = 30))
    (hw : At T' w' (1, 0) B 44 ({ σ with vha := v', ha := ha' } : Sig).cells)
    (nrha : RowT T' w' (2, 6) 71 2 v' ha'.length (ha'.flatMap fun p => [.pointer (some ⟨p.b, 0, none⟩), .string ⟨p.l.toArray⟩]))
    (nha : ∀ i p, ha'[i]? = some p → HRep w' p.b 135 [] [] p.l ∧ T' p.b = (30, i) ∧ p.l.length ≤ M')
    (hbd : M' ≤ 1073741824 ∧ ({ σ with vha := v', ha := ha' } : Sig).sp.length ≤ M' ∧ ({ σ with vha := v', ha := ha' } : Sig).si.length ≤ M' ∧ ({ σ with vha := v', ha := ha' } : Sig).so.length ≤ M' ∧ ({ σ with vha := v', ha := ha' } : Sig).ha.length ≤ M' ∧ ({ σ with vha := v', ha := ha' } : Sig).wo.length ≤ M' ∧ ({ σ with vha := v', ha := ha' } : Sig).re.length ≤ M' ∧ ({ σ with vha := v', ha := ha' } : Sig).ls.length ≤ M' ∧ ({ σ with vha := v', ha := ha' } : Sig).ma.length ≤ M')
    (hsz : (∀ x ∈ ({ σ with vha := v', ha := ha' } : Sig).wo, x.size ≤ M' + 65536) ∧ (∀ x ∈ ({ σ with vha := v', ha := ha' } : Sig).re, x.size ≤ M' + 65536) ∧ (∀ p ∈ ({ σ with vha := v', ha := ha' } : Sig).ls, p.l.length ≤ M' ∧ ∀ x ∈ p.l, x.size ≤ M' + 65536) ∧ ({ σ with vha := v', ha := ha' } : Sig).file.size ≤ M' + 65536 ∧ ({ σ with vha := v', ha := ha' } : Sig).key.size ≤ M' + 65536 ∧ ({ σ with vha := v', ha := ha' } : Sig).nonce.size ≤ M' + 65536) :
    Inv T' base B M' { σ with vha := v', ha := ha' } w' where
  hw := hw
  rsp := h.rsp.stays hs (by simp)
  rsi := h.rsi.stays hs (by simp)
  rso := h.rso.stays hs (by simp)
  rha := nrha
  rma := h.rma.stays hs (by simp)
  rwo := h.rwo.stays hs (by simp)
  rre := h.rre.stays hs (by simp)
  rls := h.rls.stays hs (by simp)
  rlw := h.rlw.stays hs (by simp)
  sp := fun i p hp => ⟨(h.sp i p hp).1.stays hs (by simp), (h.sp i p hp).2.stays hs (by simp)⟩
  si := fun i p hp => ⟨⟨(h.si i p hp).1.1.stays hs (by simp), (h.si i p hp).1.2.stays hs (by simp)⟩, (h.si i p hp).2.1.stays hs (by simp), (h.si i p hp).2.2.stays hs (by simp)⟩
  so := fun i p hp => ⟨⟨(h.so i p hp).1.1.stays hs (by simp), (h.so i p hp).1.2.stays hs (by simp)⟩, (h.so i p hp).2.1.stays hs (by simp), (h.so i p hp).2.2.stays hs (by simp)⟩
  ha := nha
  ma := fun i p hp => ⟨(h.ma i p hp).1.stays hs (h.ma i p hp).2.1 (by simp), (hs.tag _ (h.ma i p hp).1.lt).trans (h.ma i p hp).2.1, Nat.le_trans (h.ma i p hp).2.2.1 hM, Nat.le_trans (h.ma i p hp).2.2.2 (by omega)⟩
  ls := fun i p hp => ⟨(h.ls i p hp).1.stays hs (by simp), (h.ls i p hp).2.stays hs (by simp)⟩
  old := fun g hg => (hs.tag g (Nat.lt_of_lt_of_le hg h.bsz)).trans (h.old g hg)
  two := h.two
  bsz := Nat.le_trans h.bsz hs.size
  kt := h.kt.below (hs.below h.bsz h.old (by simp)) h.two
  ht := h.ht.below (hs.below h.bsz h.old (by simp)) h.two
  bound := hbd
  sizes := hsz
theorem Inv.uma {T T' : Tags} {base B M M' : Nat} {σ : Sig} {w w' : World} (h : Inv T base B M σ w) (hM : M ≤ M') (v' : Value) (ma' : List MacR)
    (hs : Stays T T' w w' (fun c => c = (1, 0) ∨ c = (2, 7) ∨ c.1 = 33))
    (hw : At T' w' (1, 0) B 44 ({ σ with vma := v', ma := ma' } : Sig).cells)
    (nrma : RowT T' w' (2, 7) 73 3 v' ma'.length (ma'.flatMap maV))
    (nma : ∀ i p, ma'[i]? = some p → MRep w' p.b 142 p.key.data.toList p.l ∧ T' p.b = (33, i) ∧ p.l.length ≤ M' ∧ p.key.size ≤ M' + 65536)
    (hbd : M' ≤ 1073741824 ∧ ({ σ with vma := v', ma := ma' } : Sig).sp.length ≤ M' ∧ ({ σ with vma := v', ma := ma' } : Sig).si.length ≤ M' ∧ ({ σ with vma := v', ma := ma' } : Sig).so.length ≤ M' ∧ ({ σ with vma := v', ma := ma' } : Sig).ha.length ≤ M' ∧ ({ σ with vma := v', ma := ma' } : Sig).wo.length ≤ M' ∧ ({ σ with vma := v', ma := ma' } : Sig).re.length ≤ M' ∧ ({ σ with vma := v', ma := ma' } : Sig).ls.length ≤ M' ∧ ({ σ with vma := v', ma := ma' } : Sig).ma.length ≤ M')
    (hsz : (∀ x ∈ ({ σ with vma := v', ma := ma' } : Sig).wo, x.size ≤ M' + 65536) ∧ (∀ x ∈ ({ σ with vma := v', ma := ma' } : Sig).re, x.size ≤ M' + 65536) ∧ (∀ p ∈ ({ σ with vma := v', ma := ma' } : Sig).ls, p.l.length ≤ M' ∧ ∀ x ∈ p.l, x.size ≤ M' + 65536) ∧ ({ σ with vma := v', ma := ma' } : Sig).file.size ≤ M' + 65536 ∧ ({ σ with vma := v', ma := ma' } : Sig).key.size ≤ M' + 65536 ∧ ({ σ with vma := v', ma := ma' } : Sig).nonce.size ≤ M' + 65536) :
    Inv T' base B M' { σ with vma := v', ma := ma' } w' where
  hw := hw
  rsp := h.rsp.stays hs (by simp)
  rsi := h.rsi.stays hs (by simp)
  rso := h.rso.stays hs (by simp)
  rha := h.rha.stays hs (by simp)
  rma := nrma
  rwo := h.rwo.stays hs (by simp)
  rre := h.rre.stays hs (by simp)
  rls := h.rls.stays hs (by simp)
  rlw := h.rlw.stays hs (by simp)
  sp := fun i p hp => ⟨(h.sp i p hp).1.stays hs (by simp), (h.sp i p hp).2.stays hs (by simp)⟩
  si := fun i p hp => ⟨⟨(h.si i p hp).1.1.stays hs (by simp), (h.si i p hp).1.2.stays hs (by simp)⟩, (h.si i p hp).2.1.stays hs (by simp), (h.si i p hp).2.2.stays hs (by simp)⟩
  so := fun i p hp => ⟨⟨(h.so i p hp).1.1.stays hs (by simp), (h.so i p hp).1.2.stays hs (by simp)⟩, (h.so i p hp).2.1.stays hs (by simp), (h.so i p hp).2.2.stays hs (by simp)⟩
  ha := fun i p hp => ⟨(h.ha i p hp).1.stays hs (h.ha i p hp).2.1 (by simp), (hs.tag _ (h.ha i p hp).1.lt).trans (h.ha i p hp).2.1, Nat.le_trans (h.ha i p hp).2.2 hM⟩
  ma := nma
  ls := fun i p hp => ⟨(h.ls i p hp).1.stays hs (by simp), (h.ls i p hp).2.stays hs (by simp)⟩
  old := fun g hg => (hs.tag g (Nat.lt_of_lt_of_le hg h.bsz)).trans (h.old g hg)
  two := h.two
  bsz := Nat.le_trans h.bsz hs.size
  kt := h.kt.below (hs.below h.bsz h.old (by simp)) h.two
  ht := h.ht.below (hs.below h.bsz h.old (by simp)) h.two
  bound := hbd
  sizes := hsz
theorem Inv.uls {T T' : Tags} {base B M M' : Nat} {σ : Sig} {w w' : World} (h : Inv T base B M σ w) (hM : M ≤ M') (v' u' : Value) (ls' : List ListR)
    (hs : Stays T T' w w' (fun c => c = (1, 0) ∨ c = (2, 15) ∨ c = (2, 16) ∨ c.1 = 31 ∨ c.1 = 32))
    (hw : At T' w' (1, 0) B 44 ({ σ with vls := v', vlw := u', ls := ls' } : Sig).cells)
    (nrls : RowT T' w' (2, 15) 41 1 v' ls'.length (ls'.map (·.v)))
    (nrlw : RowT T' w' (2, 16) 41 1 u' ls'.length (ls'.map (·.v2)))
    (nls : ∀ i p, ls'[i]? = some p → Lst T' w' (31, i) p.v p.l ∧ Lst T' w' (32, i) p.v2 p.l)
    (hbd : M' ≤ 1073741824 ∧ ({ σ with vls := v', vlw := u', ls := ls' } : Sig).sp.length ≤ M' ∧ ({ σ with vls := v', vlw := u', ls := ls' } : Sig).si.length ≤ M' ∧ ({ σ with vls := v', vlw := u', ls := ls' } : Sig).so.length ≤ M' ∧ ({ σ with vls := v', vlw := u', ls := ls' } : Sig).ha.length ≤ M' ∧ ({ σ with vls := v', vlw := u', ls := ls' } : Sig).wo.length ≤ M' ∧ ({ σ with vls := v', vlw := u', ls := ls' } : Sig).re.length ≤ M' ∧ ({ σ with vls := v', vlw := u', ls := ls' } : Sig).ls.length ≤ M' ∧ ({ σ with vls := v', vlw := u', ls := ls' } : Sig).ma.length ≤ M')
    (hsz : (∀ x ∈ ({ σ with vls := v', vlw := u', ls := ls' } : Sig).wo, x.size ≤ M' + 65536) ∧ (∀ x ∈ ({ σ with vls := v', vlw := u', ls := ls' } : Sig).re, x.size ≤ M' + 65536) ∧ (∀ p ∈ ({ σ with vls := v', vlw := u', ls := ls' } : Sig).ls, p.l.length ≤ M' ∧ ∀ x ∈ p.l, x.size ≤ M' + 65536) ∧ ({ σ with vls := v', vlw := u', ls := ls' } : Sig).file.size ≤ M' + 65536 ∧ ({ σ with vls := v', vlw := u', ls := ls' } : Sig).key.size ≤ M' + 65536 ∧ ({ σ with vls := v', vlw := u', ls := ls' } : Sig).nonce.size ≤ M' + 65536) :
    Inv T' base B M' { σ with vls := v', vlw := u', ls := ls' } w' where
  hw := hw
  rsp := h.rsp.stays hs (by simp)
  rsi := h.rsi.stays hs (by simp)
  rso := h.rso.stays hs (by simp)
  rha := h.rha.stays hs (by simp)
  rma := h.rma.stays hs (by simp)
  rwo := h.rwo.stays hs (by simp)
  rre := h.rre.stays hs (by simp)
  rls := nrls
  rlw := nrlw
  sp := fun i p hp => ⟨(h.sp i p hp).1.stays hs (by simp), (h.sp i p hp).2.stays hs (by simp)⟩
  si := fun i p hp => ⟨⟨(h.si i p hp).1.1.stays hs (by simp), (h.si i p hp).1.2.stays hs (by simp)⟩, (h.si i p hp).2.1.stays hs (by simp), (h.si i p hp).2.2.stays hs (by simp)⟩
  so := fun i p hp => ⟨⟨(h.so i p hp).1.1.stays hs (by simp), (h.so i p hp).1.2.stays hs (by simp)⟩, (h.so i p hp).2.1.stays hs (by simp), (h.so i p hp).2.2.stays hs (by simp)⟩
  ha := fun i p hp => ⟨(h.ha i p hp).1.stays hs (h.ha i p hp).2.1 (by simp), (hs.tag _ (h.ha i p hp).1.lt).trans (h.ha i p hp).2.1, Nat.le_trans (h.ha i p hp).2.2 hM⟩
  ma := fun i p hp => ⟨(h.ma i p hp).1.stays hs (h.ma i p hp).2.1 (by simp), (hs.tag _ (h.ma i p hp).1.lt).trans (h.ma i p hp).2.1, Nat.le_trans (h.ma i p hp).2.2.1 hM, Nat.le_trans (h.ma i p hp).2.2.2 (by omega)⟩
  ls := nls
  old := fun g hg => (hs.tag g (Nat.lt_of_lt_of_le hg h.bsz)).trans (h.old g hg)
  two := h.two
  bsz := Nat.le_trans h.bsz hs.size
  kt := h.kt.below (hs.below h.bsz h.old (by simp)) h.two
  ht := h.ht.below (hs.below h.bsz h.old (by simp)) h.two
  bound := hbd
  sizes := hsz
theorem Inv.usi {T T' : Tags} {base B M M' : Nat} {σ : Sig} {w w' : World} (h : Inv T base B M σ w) (hM : M ≤ M') (v' : Value) (si' : List SinkR)
    (hs : Stays T T' w w' (fun c => c = (1, 0) ∨ c = (2, 1)))
    (hw : At T' w' (1, 0) B 44 ({ σ with vsi := v', si := si' } : Sig).cells)
    (nrsi : RowT T' w' (2, 1) 96 2 v' si'.length (si'.flatMap fun p => ptrs p.bx p.bm))
    (nsi : ∀ i p, si'[i]? = some p → (At T' w' (22, i) p.bx 159 (p.cells p.gx) ∧ At T' w' (23, i) p.gx 3 (intV p.plan)) ∧ At T' w' (24, i) p.bm 159 (p.cells p.gm) ∧ At T' w' (25, i) p.gm 3 (intV p.plan))
    (hbd : M' ≤ 1073741824 ∧ ({ σ with vsi := v', si := si' } : Sig).sp.length ≤ M' ∧ ({ σ with vsi := v', si := si' } : Sig).si.length ≤ M' ∧ ({ σ with vsi := v', si := si' } : Sig).so.length ≤ M' ∧ ({ σ with vsi := v', si := si' } : Sig).ha.length ≤ M' ∧ ({ σ with vsi := v', si := si' } : Sig).wo.length ≤ M' ∧ ({ σ with vsi := v', si := si' } : Sig).re.length ≤ M' ∧ ({ σ with vsi := v', si := si' } : Sig).ls.length ≤ M' ∧ ({ σ with vsi := v', si := si' } : Sig).ma.length ≤ M')
    (hsz : (∀ x ∈ ({ σ with vsi := v', si := si' } : Sig).wo, x.size ≤ M' + 65536) ∧ (∀ x ∈ ({ σ with vsi := v', si := si' } : Sig).re, x.size ≤ M' + 65536) ∧ (∀ p ∈ ({ σ with vsi := v', si := si' } : Sig).ls, p.l.length ≤ M' ∧ ∀ x ∈ p.l, x.size ≤ M' + 65536) ∧ ({ σ with vsi := v', si := si' } : Sig).file.size ≤ M' + 65536 ∧ ({ σ with vsi := v', si := si' } : Sig).key.size ≤ M' + 65536 ∧ ({ σ with vsi := v', si := si' } : Sig).nonce.size ≤ M' + 65536) :
    Inv T' base B M' { σ with vsi := v', si := si' } w' where
  hw := hw
  rsp := h.rsp.stays hs (by simp)
  rsi := nrsi
  rso := h.rso.stays hs (by simp)
  rha := h.rha.stays hs (by simp)
  rma := h.rma.stays hs (by simp)
  rwo := h.rwo.stays hs (by simp)
  rre := h.rre.stays hs (by simp)
  rls := h.rls.stays hs (by simp)
  rlw := h.rlw.stays hs (by simp)
  sp := fun i p hp => ⟨(h.sp i p hp).1.stays hs (by simp), (h.sp i p hp).2.stays hs (by simp)⟩
  si := nsi
  so := fun i p hp => ⟨⟨(h.so i p hp).1.1.stays hs (by simp), (h.so i p hp).1.2.stays hs (by simp)⟩, (h.so i p hp).2.1.stays hs (by simp), (h.so i p hp).2.2.stays hs (by simp)⟩
  ha := fun i p hp => ⟨(h.ha i p hp).1.stays hs (h.ha i p hp).2.1 (by simp), (hs.tag _ (h.ha i p hp).1.lt).trans (h.ha i p hp).2.1, Nat.le_trans (h.ha i p hp).2.2 hM⟩
  ma := fun i p hp => ⟨(h.ma i p hp).1.stays hs (h.ma i p hp).2.1 (by simp), (hs.tag _ (h.ma i p hp).1.lt).trans (h.ma i p hp).2.1, Nat.le_trans (h.ma i p hp).2.2.1 hM, Nat.le_trans (h.ma i p hp).2.2.2 (by omega)⟩
  ls := fun i p hp => ⟨(h.ls i p hp).1.stays hs (by simp), (h.ls i p hp).2.stays hs (by simp)⟩
  old := fun g hg => (hs.tag g (Nat.lt_of_lt_of_le hg h.bsz)).trans (h.old g hg)
  two := h.two
  bsz := Nat.le_trans h.bsz hs.size
  kt := h.kt.below (hs.below h.bsz h.old (by simp)) h.two
  ht := h.ht.below (hs.below h.bsz h.old (by simp)) h.two
  bound := hbd
  sizes := hsz
theorem Inv.uso {T T' : Tags} {base B M M' : Nat} {σ : Sig} {w w' : World} (h : Inv T base B M σ w) (hM : M ≤ M') (v' : Value) (so' : List SourceR)
    (hs : Stays T T' w w' (fun c => c = (1, 0) ∨ c = (2, 2)))
    (hw : At T' w' (1, 0) B 44 ({ σ with vso := v', so := so' } : Sig).cells)
    (nrso : RowT T' w' (2, 2) 100 2 v' so'.length (so'.flatMap fun p => ptrs p.bx p.bm))
    (nso : ∀ i p, so'[i]? = some p → (At T' w' (26, i) p.bx 161 (p.cells p.gx) ∧ At T' w' (27, i) p.gx 3 (intV p.plan)) ∧ At T' w' (28, i) p.bm 161 (p.cells p.gm) ∧ At T' w' (29, i) p.gm 3 (intV p.plan))
    (hbd : M' ≤ 1073741824 ∧ ({ σ with vso := v', so := so' } : Sig).sp.length ≤ M' ∧ ({ σ with vso := v', so := so' } : Sig).si.length ≤ M' ∧ ({ σ with vso := v', so := so' } : Sig).so.length ≤ M' ∧ ({ σ with vso := v', so := so' } : Sig).ha.length ≤ M' ∧ ({ σ with vso := v', so := so' } : Sig).wo.length ≤ M' ∧ ({ σ with vso := v', so := so' } : Sig).re.length ≤ M' ∧ ({ σ with vso := v', so := so' } : Sig).ls.length ≤ M' ∧ ({ σ with vso := v', so := so' } : Sig).ma.length ≤ M')
    (hsz : (∀ x ∈ ({ σ with vso := v', so := so' } : Sig).wo, x.size ≤ M' + 65536) ∧ (∀ x ∈ ({ σ with vso := v', so := so' } : Sig).re, x.size ≤ M' + 65536) ∧ (∀ p ∈ ({ σ with vso := v', so := so' } : Sig).ls, p.l.length ≤ M' ∧ ∀ x ∈ p.l, x.size ≤ M' + 65536) ∧ ({ σ with vso := v', so := so' } : Sig).file.size ≤ M' + 65536 ∧ ({ σ with vso := v', so := so' } : Sig).key.size ≤ M' + 65536 ∧ ({ σ with vso := v', so := so' } : Sig).nonce.size ≤ M' + 65536) :
    Inv T' base B M' { σ with vso := v', so := so' } w' where
  hw := hw
  rsp := h.rsp.stays hs (by simp)
  rsi := h.rsi.stays hs (by simp)
  rso := nrso
  rha := h.rha.stays hs (by simp)
  rma := h.rma.stays hs (by simp)
  rwo := h.rwo.stays hs (by simp)
  rre := h.rre.stays hs (by simp)
  rls := h.rls.stays hs (by simp)
  rlw := h.rlw.stays hs (by simp)
  sp := fun i p hp => ⟨(h.sp i p hp).1.stays hs (by simp), (h.sp i p hp).2.stays hs (by simp)⟩
  si := fun i p hp => ⟨⟨(h.si i p hp).1.1.stays hs (by simp), (h.si i p hp).1.2.stays hs (by simp)⟩, (h.si i p hp).2.1.stays hs (by simp), (h.si i p hp).2.2.stays hs (by simp)⟩
  so := nso
  ha := fun i p hp => ⟨(h.ha i p hp).1.stays hs (h.ha i p hp).2.1 (by simp), (hs.tag _ (h.ha i p hp).1.lt).trans (h.ha i p hp).2.1, Nat.le_trans (h.ha i p hp).2.2 hM⟩
  ma := fun i p hp => ⟨(h.ma i p hp).1.stays hs (h.ma i p hp).2.1 (by simp), (hs.tag _ (h.ma i p hp).1.lt).trans (h.ma i p hp).2.1, Nat.le_trans (h.ma i p hp).2.2.1 hM, Nat.le_trans (h.ma i p hp).2.2.2 (by omega)⟩
  ls := fun i p hp => ⟨(h.ls i p hp).1.stays hs (by simp), (h.ls i p hp).2.stays hs (by simp)⟩
  old := fun g hg => (hs.tag g (Nat.lt_of_lt_of_le hg h.bsz)).trans (h.old g hg)
  two := h.two
  bsz := Nat.le_trans h.bsz hs.size
  kt := h.kt.below (hs.below h.bsz h.old (by simp)) h.two
  ht := h.ht.below (hs.below h.bsz h.old (by simp)) h.two
  bound := hbd
  sizes := hsz
end Go.Proofs.YtocoggofjlipeaaGreatDoor
