/- strings.Builder above a token's box. -/
import Derived.Test.YtokkbipdkakenaaGreatDoorBC
import Derived.Shelf.Strings.BuilderK
import Derived.Shelf.Strings.BuilderF
namespace Go.Proofs.YtokkbipdkakenaaGreatDoor
open Go.RowKit Go.Shelf

theorem isF_below {T e : TypeId} {B b : Nat} {bs : List Value} {w w' : World} (h : Lib.IsBuilderF T e B b bs w) (hb : Below w.heap.size w w') : Lib.IsBuilderF T e B b bs w' := by
  have go : ∀ p, Lib.BuilderAtF T e B b p bs w → Lib.BuilderAtF T e B b p bs w' := by
    rintro p ⟨hB, v, hbk, hown, hne⟩
    exact ⟨hB, v, (hb.block _ (Array.getElem?_eq_some_iff.1 hbk).1).trans hbk, hown.kept (grownBy_below (row := none) hb) (by cases hv : v.ownBlock <;> simp), hne⟩
  exact h.imp (go _) (go _)
/-- a token's box and a builder behind it that holds out -/
structure TB (w : World) (out : List UInt8) (W : World) : Prop where
  bx : BX w w.heap.size #[.int .i64 0, .string ⟨#[]⟩, .int .i64 0, .int .i64 0, .string ⟨#[]⟩, .int .i64 0] 35 W
  bl : Lib.IsBuilderF 72 5 (w.heap.size + 1) (w.heap.size + 1) (Lib.byteCells out) W
theorem TB.next {w W V : World} {out : List UInt8} (h : TB w out W) (hb : Below W.heap.size W V) : TB w out V := ⟨h.bx.next hb, isF_below h.bl hb⟩
theorem TB.drew {w W : World} {out : List UInt8} (h : TB w out W) : TB w out W.drew := h.next (drew_below W)
theorem TB.next_d {w W V : World} {out : List UInt8} (h : TB w out W) (hb : Below W.drew.heap.size W.drew V) : TB w out V := h.drew.next hb
theorem TB.more {w W V : World} {out out' : List UInt8} (h : TB w out W) (hb : Below (w.heap.size + 1) W V) (hl : Lib.IsBuilderF 72 5 (w.heap.size + 1) (w.heap.size + 1) (Lib.byteCells out') V) : TB w out' V :=
  ⟨⟨(hb.block _ (by omega)).trans h.bx.box, h.bx.bel.trans (hb.mono (by omega)), h.bx.ge⟩, hl⟩
theorem TB.start (w : World) : TB w [] ((w.alloc (.cells #[.int .i64 0, .string ⟨#[]⟩, .int .i64 0, .int .i64 0, .string ⟨#[]⟩, .int .i64 0] 35)).alloc (.cells #[.pointer none, .slice none 0 0] 72)) := by
  refine ⟨(BX.first w _ _).next (alloc_below _ _), .inl ⟨Nat.le_refl _, .slice none 0 0, ?_, World.ownsRowF_nil _ _ _ _, by simp [Value.ownBlock]⟩⟩
  rw [heap_at, if_pos (by simp)]
theorem TB.size {w W : World} {out : List UInt8} (h : TB w out W) : w.heap.size + 1 ≤ W.heap.size := by
  have := (Array.getElem?_eq_some_iff.1 h.bx.box).1
  omega
theorem byteCells_snoc (out : List UInt8) (c : UInt8) : Lib.byteCells (out ++ [c]) = Lib.byteCells out ++ [.int .u8 (c.toNat : Int)] := by simp [Lib.byteCells]
theorem writeByte_any (w : World) (out : List UInt8) (c : UInt8) (W : World) (h : TB w out W) (hl : out.length ≤ 100000) :
    Calls Tryz.prog 52 #[.pointer (some ⟨w.heap.size + 1, 0, none⟩), .int .u8 (c.toNat : Int)] W fun e W' => e = .returned .nilIface ∧ TB w (out ++ [c]) W' := by
  refine (Any.Builder_WriteByte_k (ρ := Tryz.lays159_ren) { Tryz.lays159 with } Tryz.Builder_Extra_159 (w.heap.size + 1) (w.heap.size + 1) (Lib.byteCells out) (c.toNat : Int) W h.bl (by rw [Lib.byteCells_length]; omega) h.size).mono ?_
  rintro e W' ⟨rfl, hA, hb, _⟩
  refine ⟨rfl, h.more hb (.inr ?_)⟩
  rw [byteCells_snoc]
  exact hA
theorem bString_any (w : World) (out : List UInt8) (W : World) (h : TB w out W) :
    Calls Tryz.prog 42 #[.pointer (some ⟨w.heap.size + 1, 0, none⟩)] W fun e W' => e = .returned (.string ⟨out.toArray⟩) ∧ TB w out W' := by
  refine (Any.Builder_String_any_f Tryz.lays169 Tryz.Builder_Extra_169 (w.heap.size + 1) (w.heap.size + 1) out W h.bl h.size).mono ?_
  rintro e W' ⟨rfl, hF, hb⟩
  exact ⟨rfl, h.more hb hF⟩
theorem bLen_any (w : World) (out : List UInt8) (W : World) (h : TB w out W) :
    Calls Tryz.prog 41 #[.pointer (some ⟨w.heap.size + 1, 0, none⟩)] W fun e W' => e = .returned (.int .i64 (out.length : Int)) ∧ W = W' := by
  refine (Any.Builder_Len_f Tryz.lays170 (w.heap.size + 1) (w.heap.size + 1) (Lib.byteCells out) W h.bl).mono ?_
  rintro e W' ⟨rfl, rfl⟩
  rw [Lib.byteCells_length]
  exact ⟨rfl, rfl⟩
end Go.Proofs.YtokkbipdkakenaaGreatDoor
