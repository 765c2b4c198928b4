/- Package wal: frame: a record as it stands on a disk. -/
import Derived.Test.YtknolgcbaoppcaaJC
namespace Go.Proofs.Ytknolgcbaoppcaa
open Go.RowKit

def hiB (r : List UInt8) : UInt8 := UInt8.ofNat ((r.length - 1) / 256)
def loB (r : List UInt8) : UInt8 := UInt8.ofNat (r.length - 1)
/-- the checksum of a record's frame -/
def sumR (r : List UInt8) : Nat := crcL (crcL 65535 [hiB r, loB r]) r
theorem sumR_lt (r : List UInt8) : sumR r < 65536 := crcL_lt _ (crcL_lt _ (by omega))
/-- a record as it stands on a disk -/
def frameL (r : List UInt8) : List UInt8 := 76 :: hiB r :: loB r :: UInt8.ofNat (sumR r / 256) :: UInt8.ofNat (sumR r) :: r
theorem frameL_len (r : List UInt8) : (frameL r).length = r.length + 5 := rfl
theorem ofNat_mod (n : Nat) : (UInt8.ofNat n).toNat = n % 256 := rfl
theorem hiB_nat {r : List UInt8} (h : r.length ≤ 65536) : (hiB r).toNat = (r.length - 1) / 256 := by
  unfold hiB
  rw [ofNat_mod]
  omega
theorem loB_nat (r : List UInt8) : (loB r).toNat = (r.length - 1) % 256 := rfl
theorem be16 {S : Nat} (h : S < 65536) : S / 256 % 256 * 256 + S % 256 = S := by
  have h1 : S / 256 % 256 = S / 256 := Nat.mod_eq_of_lt (by omega)
  rw [h1]
  omega
theorem firstL_five (m a b c d : UInt8) (t : List UInt8) : firstL (m :: a :: b :: c :: d :: t) = if m = 76 then (if 4096 < a.toNat * 256 + b.toNat + 1 ∨ t.length < a.toNat * 256 + b.toNat + 1 then 0 else if c.toNat * 256 + d.toNat = crcL (crcL 65535 [a, b]) (t.take (a.toNat * 256 + b.toNat + 1)) then 5 + (a.toNat * 256 + b.toNat + 1) else 0) else 0 := rfl
/-- bytes that begin with a record's frame -/
theorem firstL_frame {r : List UInt8} (h1 : 1 ≤ r.length) (h2 : r.length ≤ 4096) (t : List UInt8) : firstL (frameL r ++ t) = r.length + 5 := by
  have hs := sumR_lt r
  have hn : (hiB r).toNat * 256 + (loB r).toNat + 1 = r.length := by rw [hiB_nat (by omega), loB_nat]; omega
  show firstL (76 :: hiB r :: loB r :: UInt8.ofNat (sumR r / 256) :: UInt8.ofNat (sumR r) :: (r ++ t)) = _
  rw [firstL_five, if_pos rfl, hn, if_neg (by rw [List.length_append]; omega), List.take_left]
  rw [if_pos]
  · omega
  · have e : crcL (crcL 65535 [hiB r, loB r]) r = sumR r := rfl
    rw [e, ofNat_mod, ofNat_mod]
    exact be16 hs
/-- no frame begins so -/
theorem firstL_zero {c : UInt8} (h : c ≠ 76) (t : List UInt8) : firstL (c :: t) = 0 := by
  match t with
  | a :: b :: c :: d :: t => show (if _ then _ else _) = _; rw [if_neg h]
  | [] => rfl
  | [_] => rfl
  | [_, _] => rfl
  | [_, _, _] => rfl
/-- a part of a frame is none -/
theorem firstL_part {r : List UInt8} (h1 : 1 ≤ r.length) (h2 : r.length ≤ 65536) (k : Nat) (hk : k < r.length + 5) : firstL ((frameL r).take k) = 0 := by
  by_cases h5 : k < 5
  · exact firstL_short (by rw [List.length_take]; omega)
  · obtain ⟨j, rfl⟩ : ∃ j, k = j + 5 := ⟨k - 5, by omega⟩
    have hn : (hiB r).toNat * 256 + (loB r).toNat + 1 = r.length := by rw [hiB_nat (by omega), loB_nat]; omega
    show firstL (76 :: hiB r :: loB r :: UInt8.ofNat (sumR r / 256) :: UInt8.ofNat (sumR r) :: r.take j) = 0
    rw [firstL_five, if_pos rfl, hn, if_pos (.inr (by rw [List.length_take]; omega))]
theorem OwnB.len {w : World} {B n cap : Nat} {A : Option Addr} {l : List UInt8} (h : OwnB w B (.slice A n cap) l) : l.length = n := by
  obtain ⟨_, _, _, e, _⟩ := h
  injection e with e1 e2 e3
  exact e2.symm
theorem OwnB.set {w : World} {B g n cap : Nat} {l : List UInt8} (h : OwnB w B (.slice (some ⟨g, 0, none⟩) n cap) l) (m : Nat) (c : UInt8) : OwnB (w.setCell ⟨g, m, none⟩ (.int .u8 (c.toNat : Int))) B (.slice (some ⟨g, 0, none⟩) n cap) (l.set m c) := by
  have e0 := h.len
  subst e0
  have h1 := (h.1.stored (g := g) m (.int .u8 (c.toNat : Int))).1
  have e : (bytesV l).set m (.int .u8 (c.toNat : Int)) = bytesV (l.set m c) := by simp [bytesV, List.map_set]
  rw [e] at h1
  exact OwnB.of_row h1
theorem OwnB.cell_free {w : World} {B g n cap : Nat} {l : List UInt8} (h : OwnB w B (.slice (some ⟨g, 0, none⟩) n cap) l) {m : Nat} (hm : m < l.length) : (∃ v, w.cell? ⟨g, m, none⟩ = some v) ∧ w.frozen? ⟨g, m, none⟩ = false :=
  by
  have e0 := h.len
  subst e0
  have h2 := h.1.cells (g := g) rfl m (.int .u8 ((l[m]).toNat : Int)) (by simp [bytesV, hm])
  rw [add_plain] at h2
  exact ⟨⟨_, h2⟩, h.1.frozenAt m⟩
/-- what frame answers -/
def FrT (w : World) (r : List UInt8) (e : Ending) (w' : World) : Prop := ∃ g cap, e = .returned (.slice (some ⟨g, 0, none⟩) (r.length + 5) cap) ∧ OwnB w' w.heap.size (.slice (some ⟨g, 0, none⟩) (r.length + 5) cap) (frameL r) ∧ Below w.heap.size w w'
set_option maxRecDepth 100000 in
set_option maxHeartbeats 4000000 in
theorem frame_any (r : List UInt8) (A : Option Addr) (n cap : Nat) (hn : r.length = n) (h1 : 1 ≤ r.length) (h2 : r.length ≤ 4096) (w : World) (hr : RdB w w.heap.size A r) :
    Calls Try.prog 84 #[.slice A n cap] w (FrT w r) := by
  subst hn
  obtain ⟨i0, hi, hz0, hz1, hz2⟩ := info_parts info8
  have HL : Hid (1 ≤ r.length ∧ r.length ≤ 4096) := Lib.hid ⟨h1, h2⟩
  have HR := Lib.hid hr
  have h1i : 1 ≤ (r.length : Int) := by omega
  have h2i : (r.length : Int) ≤ 4096 := by omega
  have HX1 : Hid (OwnB (w.alloc (.cells #[.int .u8 76, .int .u8 (((r.length : Int) - 1) / 256), .int .u8 (((r.length : Int) - 1) % 256), .int .u8 0, .int .u8 0] 5)) w.heap.size (.slice (some ⟨w.heap.size, 0, none⟩) 5 5) [76, hiB r, loB r, 0, 0]) := Lib.hid (by
    have e1 : (((hiB r).toNat : Nat) : Int) = ((r.length : Int) - 1) / 256 := by rw [hiB_nat (by omega)]; omega
    have e2 : (((loB r).toNat : Nat) : Int) = ((r.length : Int) - 1) % 256 := by rw [loB_nat]; omega
    rw [← e1, ← e2]
    exact OwnB.of_row (n := 5) (own_lit (heap_alloc_new w _) (Nat.le_refl _) rfl (by omega)))
  have HX2 : Hid (∀ o, RdB (w.alloc o) w.heap.size A r) := Lib.hid fun o => hr.below (alloc_below w o) (Nat.le_refl _)
  have HX3 : Hid (∀ o, Below w.heap.size w (w.alloc o)) := Lib.hid fun o => alloc_below w o
  have HX4 : Hid (∀ o, w.heap.size ≤ (w.alloc o).heap.size) := Lib.hid fun o => by simp
  obtain ⟨F, hF⟩ : ∃ F, F = [76, hiB r, loB r, 0, 0] ++ r := ⟨_, rfl⟩
  obtain ⟨S, hS⟩ : ∃ S, S = sumR r := ⟨_, rfl⟩
  have hFS : sumL F = S := by rw [hF, hS]; rfl
  have hFL : (F.set 3 (UInt8.ofNat (S / 256))).set 4 (UInt8.ofNat S) = frameL r := by rw [hF, hS]; rfl
  have hFn : F.length = r.length + 5 := by rw [hF]; simp
  have hSl : S < 65536 := by rw [hS]; exact sumR_lt r
  have HF := Lib.hid hF
  have HFS := Lib.hid hFS
  have HFL := Lib.hid hFL
  have HFn := Lib.hid hFn
  have HE1 : Hid ((((UInt8.ofNat (S / 256)).toNat : Nat) : Int) = (S : Int) / 256) := Lib.hid (by rw [ofNat_mod]; omega)
  have HE2 : Hid ((((UInt8.ofNat S).toNat : Nat) : Int) = (S : Int) % 256) := Lib.hid (by rw [ofNat_mod]; omega)
  have hSi : (S : Int) < 65536 := by omega
  clear hr h1 h2 hF hS hFS hFL hFn hSl
  go_enter Try.func84, Try.ntmps84
  go_wp2_with (first
    | (at_builtin
       refine wpList_appB (xs := [76, hiB r, loB r, 0, 0]) (ys := r) (B := w.heap.size) rfl _ _ 56 rfl Try.underlying56 hi hz0 hz1 hz2 rfl HX1.out rfl rfl (HX2.out _) (by have := HL.out; simp; omega) (HX4.out _) ?_
       intro v5 w5 ho5 hg5
       rw [← HF.out] at ho5
       have hb5 := grew_below (HX3.out _) HX1.out.ge hg5
       obtain ⟨g, cap5, hv5, hg⟩ := ho5.head (by have := HFn.out; omega)
       subst hv5
       rw [HFn.out] at ho5
       have HC := Lib.hid (checksum_any F ⟨g, 0, none⟩ (r.length + 5) cap5 w5.heap.size HFn.out (by have := HFn.out; have := HL.out; omega) (by obtain ⟨_, _, _, e, hh⟩ := ho5; injection e with e1 e2 e3; omega) (by have := HFn.out; have := HL.out; omega) w5 ho5.rd)
       have HO5 := Lib.hid ho5
       have HB5 := Lib.hid hb5
       rw [HFn.out]
       clear ho5 hg5 hb5 hg)
    | (go_at_call 73; refine HC.out.mono ?_; rintro e w6 ⟨rfl, k, hk⟩
       rw [HFS.out]
       have ho6 := HO5.out.heap (w' := w6) (by rw [hk]; rfl)
       have hb6 : Below w.heap.size w w6 := by rw [hk]; exact HB5.out.trans ((drewN_below w5 k).mono HB5.out.size)
       obtain ⟨⟨c3, x3⟩, z3⟩ := ho6.cell_free (m := 3) (by have := HFn.out; omega)
       obtain ⟨⟨c4, x4⟩, z4⟩ := ho6.cell_free (m := 4) (by have := HFn.out; omega)
       have HO6 := Lib.hid ((ho6.set 3 (UInt8.ofNat (S / 256))).set 4 (UInt8.ofNat S))
       have HB6 := Lib.hid hb6
       have HG6 := Lib.hid (ho6.ge g rfl)
       clear ho6 hb6 hk))
  go_ret
  have h := HO6.out
  rw [HE1.out, HE2.out, HFL.out] at h
  exact ⟨g, cap5, rfl, h, HB6.out.trans (((Only.set w6 g 3 _).trans (Only.set _ g 4 _) (fun _ _ e => e)).below HB6.out.size (fun j e => by have := HG6.out; omega))⟩
end Go.Proofs.Ytknolgcbaoppcaa
