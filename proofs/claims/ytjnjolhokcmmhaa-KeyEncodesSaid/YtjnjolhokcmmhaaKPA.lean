/- The document's bytes of one value of a key. -/
import Derived.Test.YtjnjolhokcmmhaaKG
import Derived.Test.YtjnjolhokcmmhaaKJA
namespace Go.Proofs.Ytjnjolhokcmmhaa
open Go.RowKit

/-- what the document's one answers -/
def OneT (w : World) (bs : List UInt8) (e : Ending) (w' : World) : Prop := ∃ v, e = .returned v ∧ OwnB w' w.heap.size v bs ∧ Below w.heap.size w w'
theorem own_one {w : World} {B : Nat} (hB : B ≤ w.heap.size) (c : UInt8) (x : Int) (hx : x = (c.toNat : Int)) : OwnB (w.alloc (.cells #[.int .u8 x] 5)) B (.slice (some ⟨w.heap.size, 0, none⟩) 1 1) [c] := by
  subst hx
  exact OwnB.of_row (n := 1) (own_lit (cs := #[.int .u8 (c.toNat : Int)]) (heap_alloc_new w _) hB rfl (by omega))
theorem own_one2 {w : World} {o : Obj} {B : Nat} (hB : B ≤ w.heap.size) (c : UInt8) (x : Int) (hx : x = (c.toNat : Int)) : OwnB ((w.alloc o).alloc (.cells #[.int .u8 x] 5)) B (.slice (some ⟨w.heap.size + 1, 0, none⟩) 1 1) [c] := by
  have h := own_one (w := w.alloc o) (B := B) (by simp; omega) c x hx
  have e : (w.alloc o).heap.size = w.heap.size + 1 := by simp
  rw [e] at h
  exact h
theorem rd_one3 (w : World) (o p : Obj) (x : Int) (c : UInt8) (hx : x = (c.toNat : Int)) : RdB (((w.alloc o).alloc p).alloc (.cells #[.int .u8 x] 5)) (w.heap.size + 1 + 1 + 1) (some ⟨w.heap.size + 1 + 1, 0, none⟩) [c] := by
  have h := rd_one ((w.alloc o).alloc p) x c hx
  have e : ((w.alloc o).alloc p).heap.size = w.heap.size + 1 + 1 := by simp
  rw [e] at h
  exact h
theorem alloc3_size (w : World) (o p q : Obj) : w.heap.size ≤ (((w.alloc o).alloc p).alloc q).heap.size := by simp; omega
theorem one_0 (n : Int) (s : ByteArray) (w : World) : Calls Try.prog 37 #[.agg #[.int .i64 0, .int .i64 n, .string s]] w (OneT w [0]) := by
  have HY : Hid (OneT w [0] (.returned (.slice (some ⟨w.heap.size + 1, 0, none⟩) 1 1)) ((w.alloc (.cells #[.int .i64 0, .int .i64 n, .string s] 68)).alloc (.cells #[.int .u8 0] 5))) := Lib.hid ⟨_, rfl, own_one2 (Nat.le_refl _) 0 0 rfl, alloc2_below _ _ _⟩
  go_enter Try.func37, Try.ntmps37
  go_wp2_with fail
  go_ret
  exact HY.out
set_option maxRecDepth 100000 in
set_option maxHeartbeats 2000000 in
theorem one_1 (b : Nat) (hb : b ≤ 1) (s : ByteArray) (w : World) : Calls Try.prog 37 #[.agg #[.int .i64 1, .int .i64 (b : Int), .string s]] w (OneT w [1, UInt8.ofNat b]) := by
  obtain ⟨i0, hi, hz0, hz1, hz2⟩ := info_parts info8
  have HO := Lib.hid (own_one2 (w := w) (o := .cells #[.int .i64 1, .int .i64 (b : Int), .string s] 68) (Nat.le_refl _) 1 1 rfl)
  have HBA := Lib.hid (alloc2_below w (.cells #[.int .i64 1, .int .i64 (b : Int), .string s] 68) (.cells #[.int .u8 1] 5))
  have HBN : Hid ((b : Int) = ((UInt8.ofNat b).toNat : Int)) := Lib.hid (by rw [ofNat_toNat (by omega)])
  have hb0 : (0 : Int) ≤ (b : Int) := by omega
  have hb1 : (b : Int) ≤ 1 := by omega
  have hw : IntKind.u8.wrap (b : Int) = (b : Int) := by unfold IntKind.wrap; simp [IntKind.bits, IntKind.signed]; omega
  clear hb
  go_enter Try.func37, Try.ntmps37
  go_wp2_with (at_builtin
               refine wpList_appB (xs := [1]) (ys := [UInt8.ofNat b]) (B := w.heap.size) rfl _ _ 23 rfl Try.underlying23 hi hz0 hz1 hz2 rfl (HO.out.below (alloc_below _ _)) rfl rfl (rd_one3 w _ _ _ _ HBN.out) (by simp) (alloc3_size _ _ _ _) ?_
               intro v5 w5 ho5 hg5
               have HY : Hid (OneT w [1, UInt8.ofNat b] (.returned v5) w5) := Lib.hid ⟨v5, rfl, ho5, (HBA.out.trans ((alloc_below _ _).mono HBA.out.size)).trans (hg5.toBelow (alloc3_size _ _ _ _) HO.out.ge)⟩
               clear ho5 hg5)
  go_ret
  exact HY.out
end Go.Proofs.Ytjnjolhokcmmhaa
