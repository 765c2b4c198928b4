/- The document's Frame. -/
import Derived.Test.YtgdofnbnahpedaaJQ
import Derived.Test.YtgdofnbnahpedaaKR
namespace Go.Proofs.Ytgdofnbnahpedaa
open Go.RowKit

set_option maxRecDepth 100000 in
set_option maxHeartbeats 4000000 in
theorem rframe_any (r : List UInt8) (A : Option Addr) (n cap : Nat) (hn : r.length = n) (h1 : 1 ≤ r.length) (h2 : r.length ≤ 4096) (w : World) (hr : RdB w w.heap.size A r) :
    Calls Try.prog 74 #[.slice A n cap] w (fun e w' => ∃ v, e = .returned v ∧ OwnB w' w.heap.size v (frameL r) ∧ Below w.heap.size w w') := by
  subst hn
  obtain ⟨i0, hi, hz0, hz1, hz2⟩ := info_parts info8
  have HL : Hid (1 ≤ r.length ∧ r.length ≤ 4096) := Lib.hid ⟨h1, h2⟩
  have h1i : 1 ≤ (r.length : Int) := by omega
  have h2i : (r.length : Int) ≤ 4096 := by omega
  have HX1 : Hid (OwnB (w.alloc (.cells #[.int .u8 (((r.length : Int) - 1) / 256), .int .u8 (((r.length : Int) - 1) % 256)] 5)) w.heap.size (.slice (some ⟨w.heap.size, 0, none⟩) 2 2) [hiB r, loB r]) := Lib.hid (by
    have e1 : (((hiB r).toNat : Nat) : Int) = ((r.length : Int) - 1) / 256 := by rw [hiB_nat (by omega)]; omega
    have e2 : (((loB r).toNat : Nat) : Int) = ((r.length : Int) - 1) % 256 := by rw [loB_nat]; omega
    rw [← e1, ← e2]
    exact OwnB.of_row (n := 2) (own_lit (heap_alloc_new w _) (Nat.le_refl _) rfl (by omega)))
  have HX2 : Hid (∀ o, RdB (w.alloc o) w.heap.size A r) := Lib.hid fun o => hr.below (alloc_below w o) (Nat.le_refl _)
  have HX3 : Hid (∀ o, Below w.heap.size w (w.alloc o)) := Lib.hid fun o => alloc_below w o
  have HR := Lib.hid hr
  obtain ⟨S, hS⟩ : ∃ S, S = sumR r := ⟨_, rfl⟩
  have hSl : S < 65536 := by rw [hS]; exact sumR_lt r
  have HS := Lib.hid hS
  have hSi : (S : Int) ≤ 65535 := by omega
  have HE1 : Hid ((((UInt8.ofNat (S / 256)).toNat : Nat) : Int) = (S : Int) / 256) := Lib.hid (by rw [ofNat_mod]; omega)
  have HE2 : Hid ((((UInt8.ofNat S).toNat : Nat) : Int) = (S : Int) % 256) := Lib.hid (by rw [ofNat_mod]; omega)
  clear hr h1 h2 hS hSl
  go_enter Try.func74, Try.ntmps74
  go_wp2_with (first
    | (at_builtin
       refine wpList_appB (xs := [hiB r, loB r]) (ys := r) (B := w.heap.size) rfl _ _ 23 rfl Try.underlying23 hi hz0 hz1 hz2 rfl HX1.out rfl rfl (HX2.out _) (by have := HL.out; simp; omega) (by simp) ?_
       intro v5 w5 ho5 hg5
       have hb5 := grew_below (HX3.out _) HX1.out.ge hg5
       obtain ⟨g, cap5, hv5, hg⟩ := ho5.head (by simp)
       subst hv5
       have y0 := ho5.1.cells (g := g) rfl 0 (.int .u8 ((hiB r).toNat : Int)) (by simp [bytesV])
       have y1 := ho5.1.cells (g := g) rfl 1 (.int .u8 ((loB r).toNat : Int)) (by simp [bytesV])
       rw [add_plain] at y0 y1
       have HC : Hid (∀ n', ([hiB r, loB r] ++ r).length = n' → Calls Try.prog 97 #[.slice (some ⟨g, 0, none⟩) n' cap5] w5 (Looks (.int .u16 (S : Int)) w5)) := Lib.hid (fun n' hn' => by
         have h9 := refcheck_any ([hiB r, loB r] ++ r) (some ⟨g, 0, none⟩) n' cap5 _ hn' (by have := HL.out; simp; omega) w5 ho5.rd
         have e9 : crcL 65535 ([hiB r, loB r] ++ r) = S := by rw [HS.out, crcL_app]; rfl
         rw [e9] at h9
         exact h9)
       have HB5 := Lib.hid hb5
       have HLN : Hid (([hiB r, loB r] ++ r).length = r.length + 2) := Lib.hid (by simp)
       rw [HLN.out]
       have HY5 := Lib.hid (And.intro y0 y1)
       clear ho5 hg5 hb5 hg)
    | (go_at_call 97; refine (HC.out _ HLN.out).mono ?_; rintro e w6 ⟨rfl, rfl⟩))
  have HS5 : Hid (∀ W : World, W.heap = w5.heap → W.cell? ⟨g, 0, none⟩ = some (.int .u8 ((hiB r).toNat : Int)) ∧ W.cell? ⟨g, 1, none⟩ = some (.int .u8 ((loB r).toNat : Int))) := Lib.hid fun W e => ⟨(World.cell?_of_block (by rw [e])).trans HY5.out.1, (World.cell?_of_block (by rw [e])).trans HY5.out.2⟩
  have HSA : Hid (∀ (o : Obj) (W : World), W.heap = (w5.alloc o).heap → W.cell? ⟨g, 0, none⟩ = some (.int .u8 ((hiB r).toNat : Int)) ∧ W.cell? ⟨g, 1, none⟩ = some (.int .u8 ((loB r).toNat : Int))) := Lib.hid fun o W e =>
    ⟨(World.cell?_of_block (by rw [e]; exact (alloc_below w5 o).block g (cell_lt HY5.out.1))).trans HY5.out.1, (World.cell?_of_block (by rw [e]; exact (alloc_below w5 o).block g (cell_lt HY5.out.2))).trans HY5.out.2⟩
  have hx0 : (0 : Int) < (r.length : Int) + 2 := by omega
  have hx1 : (1 : Int) < (r.length : Int) + 2 := by omega
  go_region_held3 (fun W => W.cell? ⟨g, 0, none⟩ = some (.int .u8 ((hiB r).toNat : Int)) ∧ W.cell? ⟨g, 1, none⟩ = some (.int .u8 ((loB r).toNat : Int)))
    (first
      | exact HS5.out _ rfl
      | exact HSA.out _ _ rfl)
    (first
    | fail)
  have HX6 : Hid (OwnB ((w5.alloc (.cells #[.int .u8 76, .int .u8 ((hiB r).toNat : Int), .int .u8 ((loB r).toNat : Int), .int .u8 (IntKind.u8.wrap ((S : Int) / 256)), .int .u8 (IntKind.u8.wrap (S : Int))] 5)).drew) w.heap.size (.slice (some ⟨w5.heap.size, 0, none⟩) 5 5) [76, hiB r, loB r, UInt8.ofNat (S / 256), UInt8.ofNat S]) := Lib.hid (by
    have e1 : IntKind.u8.wrap ((S : Int) / 256) = (((UInt8.ofNat (S / 256)).toNat : Nat) : Int) := by rw [HE1.out]; show (S : Int) / 256 % 256 = _; omega
    have e2 : IntKind.u8.wrap (S : Int) = (((UInt8.ofNat S).toNat : Nat) : Int) := by rw [HE2.out]; rfl
    rw [e1, e2]
    exact (OwnB.of_row (n := 5) (own_lit (heap_alloc_new w5 _) HB5.out.size rfl (by omega))).below (drew_below _))
  have HB6 : Hid (∀ o, Below w.heap.size w ((w5.alloc o).drew)) := Lib.hid fun o => (HB5.out.trans ((alloc_below w5 o).mono HB5.out.size)).trans ((drew_below _).mono (by have := HB5.out.size; have := alloc_size w5 o; omega))
  have HR6 : Hid (∀ o, RdB ((w5.alloc o).drew) w.heap.size A r) := Lib.hid fun o => HR.out.below (HB6.out o) (Nat.le_refl _)
  go_wp2_with (at_builtin
               refine wpList_appB (xs := [76, hiB r, loB r, UInt8.ofNat (S / 256), UInt8.ofNat S]) (ys := r) (B := w.heap.size) rfl _ _ 23 rfl Try.underlying23 hi hz0 hz1 hz2 rfl HX6.out rfl rfl (HR6.out _) (by have := HL.out; simp; omega) (HB6.out _).size ?_
               intro v7 w7 ho7 hg7
               have e7 : [76, hiB r, loB r, UInt8.ofNat (S / 256), UInt8.ofNat S] ++ r = frameL r := by rw [HS.out]; rfl
               rw [e7] at ho7
               have HY : Hid (OwnB w7 w.heap.size v7 (frameL r) ∧ Below w.heap.size w w7) := Lib.hid ⟨ho7, grew_below (HB6.out _) HX6.out.ge hg7⟩
               clear ho7 hg7 e7)
  go_ret
  exact ⟨_, rfl, HY.out⟩
end Go.Proofs.Ytgdofnbnahpedaa
