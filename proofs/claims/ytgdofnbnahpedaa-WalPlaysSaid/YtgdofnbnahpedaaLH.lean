/- The document's log. -/
import Derived.Test.YtgdofnbnahpedaaLE
import Derived.Test.YtgdofnbnahpedaaLF
import Derived.Test.YtgdofnbnahpedaaLG
namespace Go.Proofs.Ytgdofnbnahpedaa
open Go.RowKit

/-- the document's log: in block q, on the document's disk in p (its bytes X in g), its entries in d -/
structure Rw (w : World) (B q p g d b e s : Nat) (X : List UInt8) (es : List BEnt) : Prop where
  box : ∃ A cap, w.heap[q]? = some (.cells #[.pointer (some ⟨p, 0, none⟩), .slice A es.length cap] 58 (0, 0)) ∧ HeldC w q d 2 (.slice A es.length cap) es.length (entsV es)
  disk : Mk w B p g b e s X
  ge : B ≤ q ∧ B ≤ d
  ne : q ≠ p ∧ q ≠ g ∧ d ≠ p ∧ d ≠ g
  ents : ∀ x ∈ es, RdB w w.heap.size x.A x.l ∧ (x.l ≠ [] → ∀ ad, x.A = some ad → B ≤ ad.block ∧ ad.block ≠ q ∧ ad.block ≠ p ∧ ad.block ≠ g ∧ ad.block ≠ d)
theorem Rw.lt {w : World} {B q p g d b e s : Nat} {X : List UInt8} {es : List BEnt} (h : Rw w B q p g d b e s X es) : q < w.heap.size := by
  obtain ⟨A, cap, h1, _⟩ := h.box
  exact (Array.getElem?_eq_some_iff.1 h1).1
theorem Rw.dlt {w : World} {B q p g d b e s : Nat} {X : List UInt8} {es : List BEnt} (h : Rw w B q p g d b e s X es) : d < w.heap.size := by
  obtain ⟨A, cap, _, h2⟩ := h.box
  exact h2.lt h.lt
theorem Rw.below {w w' : World} {B q p g d b e s : Nat} {X : List UInt8} {es : List BEnt} (h : Rw w B q p g d b e s X es) (hb : Below w.heap.size w w') : Rw w' B q p g d b e s X es := by
  obtain ⟨A, cap, h1, h2⟩ := h.box
  refine ⟨⟨A, cap, (hb.block q h.lt).trans h1, h2.only (Only.of_below (K := fun _ => False) hb) (fun _ => id)⟩, h.disk.below hb, h.ge, h.ne, fun x hx => ?_⟩
  obtain ⟨h3, h4⟩ := h.ents x hx
  exact ⟨(h3.below hb (Nat.le_refl _)).more hb.size, h4⟩
/-- Find on a log -/
theorem rw_find {w : World} {B q p g d b e s : Nat} {X : List UInt8} {es : List BEnt} (h : Rw w B q p g d b e s X es) (hl : es.length ≤ 1000000) (n : Int) : Calls Try.prog 39 #[.pointer (some ⟨q, 0, none⟩), .int .i64 n] w (Looks (.int .i64 (findE es n)) w) := by
  obtain ⟨A, cap, h1, h2⟩ := h.box
  exact rfind_any h1 h2.rd.1.ents hl n
/-- Safe on a log -/
theorem rw_safe {w : World} {B q p g d b e s : Nat} {X : List UInt8} {es : List BEnt} (h : Rw w B q p g d b e s X es) (hl : es.length ≤ 1000000) (hb : ∀ x ∈ es, 0 ≤ x.no ∧ x.no ≤ 1000000 ∧ x.l.length ≤ 1000000) : Calls Try.prog 34 #[.pointer (some ⟨q, 0, none⟩)] w (LooksN (.int .i64 ((safeE es (s : Int) : Nat) : Int)) w) := by
  obtain ⟨A, cap, h1, h2⟩ := h.box
  have hd : w.cell? ⟨p, 3, none⟩ = some (.int .i64 (s : Int)) := by
    obtain ⟨_, _, hx, _⟩ := h.disk.box
    exact (box4 hx).2.2.2
  exact rsafe_any h1 hd h2.rd.1.ents hl hb
end Go.Proofs.Ytgdofnbnahpedaa
