import Derived.Test.YtfidnpchkfpoeabDoorP1
namespace Go.Proofs.YtfidnpchkfpoeabDoor
open Go.RowKit

structure SpringR where
  bx : Nat
  bm : Nat
  text : ByteArray
  pos : Int
def SpringR.cells (p : SpringR) : List Value := [.string p.text, .int .i64 p.pos]
structure SinkR where
  bx : Nat
  gx : Nat
  bm : Nat
  gm : Nat
  got : ByteArray
  plan : List Int
  pos : Int
  hgot : got.size ≤ 65536
def SinkR.cells (p : SinkR) (g : Nat) : List Value := [.string p.got, .slice (some ⟨g, 0, none⟩) p.plan.length p.plan.length, .int .i64 p.pos]
structure SourceR where
  bx : Nat
  gx : Nat
  bm : Nat
  gm : Nat
  text : ByteArray
  pos : Int
  plan : List Int
  step : Int
def SourceR.cells (p : SourceR) (g : Nat) : List Value := [.string p.text, .int .i64 p.pos, .slice (some ⟨g, 0, none⟩) p.plan.length p.plan.length, .int .i64 p.step]
structure HashR where
  b : Nat
  l : List UInt8
structure MacR where
  b : Nat
  key : ByteArray
  l : List UInt8
/-- The key's block, each byte with c. -/
def padL (key : List UInt8) (c : UInt8) : List UInt8 := ((if 64 < key.length then Sha.sum key else key) ++ List.replicate (64 - (if 64 < key.length then Sha.sum key else key).length) 0).map (· ^^^ c)
/-- A mac: its inner and its outer hasher lie in one block. -/
def MRep (w : World) (b : Nat) (t : TypeId) (key l : List UInt8) : Prop :=
  ∃ ci co : List Value, ci.length = 73 ∧ co.length = 73 ∧ HRep w b t [] co (padL key 0x36 ++ l) ∧ HRep w b t ci [] (padL key 0x5c)
def maV (p : MacR) : List Value := [.pointer (some ⟨p.b, 0, none⟩), .string p.key, .string ⟨p.l.toArray⟩]
structure StrR where
  b : Nat
  key : ByteArray
  nonce : ByteArray
  n : Nat
  used : Nat
def stV (p : StrR) : List Value := [.pointer (some ⟨p.b, 0, none⟩), .string p.key, .string p.nonce, .int .i64 (p.n : Nat), .int .i64 (p.used : Nat)]
structure TagR where
  b : Nat
  key : ByteArray
  l : List UInt8
def taV (p : TagR) : List Value := [.pointer (some ⟨p.b, 0, none⟩), .string p.key, .string ⟨p.l.toArray⟩]
structure ListR where
  v : Value
  v2 : Value
  l : List ByteArray
def ptrs (a b : Nat) : List Value := [.pointer (some ⟨a, 0, none⟩), .pointer (some ⟨b, 0, none⟩)]

/-- What the law's world holds. -/
structure Sig where
  vsp : Value
  vsi : Value
  vso : Value
  vha : Value
  vma : Value
  vst : Value
  vta : Value
  vwo : Value
  vre : Value
  vls : Value
  vlw : Value
  sp : List SpringR
  si : List SinkR
  so : List SourceR
  ha : List HashR
  ma : List MacR
  st : List StrR
  ta : List TagR
  wo : List ByteArray
  re : List ByteArray
  ls : List ListR
  file : ByteArray
  key : ByteArray
  nonce : ByteArray
  fr : Int
  n : Int
  ex : Int
def nilV : Value := .slice none 0 0
def Sig.cells (σ : Sig) : List Value := [σ.vsp, σ.vsi, σ.vso, nilV, nilV, nilV, σ.vha, σ.vma, σ.vst, σ.vta, σ.vwo, .string σ.file, .string σ.key, .string σ.nonce, σ.vre, σ.vls, σ.vlw, .int .i64 σ.fr, .int .i64 σ.n, .int .i64 σ.ex]

end Go.Proofs.YtfidnpchkfpoeabDoor
namespace Go.Proofs.YtfidnpchkfpoeabDoor
open Go.RowKit
theorem HRep.stays {T T' : Tags} {w w' : World} {S : Nat × Nat → Prop} {c : Nat × Nat} {b : Nat} {t : TypeId} {pre post : List Value} {l : List UInt8} (h : HRep w b t pre post l) (hs : Stays T T' w w' S) (ht : T b = c) (hc : ¬ S c) : HRep w' b t pre post l := by
  obtain ⟨k, h1, h2, h3⟩ := h
  refine ⟨k, h1, h2, ?_⟩
  unfold Blk
  rw [hs.block b h3.lt (by rw [ht]; exact hc)]
  exact h3
theorem MRep.lt {w : World} {b : Nat} {t : TypeId} {key l : List UInt8} (h : MRep w b t key l) : b < w.heap.size := by
  obtain ⟨ci, co, _, _, h, _⟩ := h
  exact h.lt
theorem MRep.stays {T T' : Tags} {w w' : World} {S : Nat × Nat → Prop} {c : Nat × Nat} {b : Nat} {t : TypeId} {key l : List UInt8} (h : MRep w b t key l) (hs : Stays T T' w w' S) (ht : T b = c) (hc : ¬ S c) : MRep w' b t key l := by
  obtain ⟨ci, co, h1, h2, h3, h4⟩ := h
  exact ⟨ci, co, h1, h2, h3.stays hs ht hc, h4.stays hs ht hc⟩
end Go.Proofs.YtfidnpchkfpoeabDoor
