/- Package key: cutValue at a Null. -/
import Derived.Test.YtjnjolhokcmmhaaKDF
namespace Go.Proofs.Ytjnjolhokcmmhaa
open Go.RowKit
set_option maxRecDepth 100000 in
set_option maxHeartbeats 8000000 in
theorem cutValue_0n {C : Nat} (ad : Addr) (w : World) (hab : ad.block < w.heap.size) (x0 : w.cell? ad = some (.int .u8 (0 : UInt8).toNat)) :
    Calls Try.prog 38 #[.slice (some ad) 1 1] w (CVT C w (0 :: [])) := by
  have HY : Hid (∀ W, Below w.heap.size w W → CVT C w (0 :: []) (.returned (.tuple #[.agg #[.int .i64 0, .int .i64 0, .string ⟨#[]⟩], .slice (some ad) 0 0, .bool true])) W) := Lib.hid fun W hb => ⟨hb, ⟨0, 0, ⟨#[]⟩⟩, _, _, _, _, rfl, .inl ⟨rfl, R_0, [], rfl, rfl, RdB.nil _ _ _, Nat.le_refl _⟩⟩
  have RA : Hid (∀ w, Calls Try.prog 34 #[.agg #[.int .i64 0, .int .i64 0, .string ⟨#[]⟩]] w (Ans (.bool true) w)) := Lib.hid fun w => by
    have h := right_at' ⟨0, 0, ⟨#[]⟩⟩ (by decide) w
    rw [R_0.1] at h
    exact h
  have HS : Hid (VB w (w.alloc (.cells #[.int .i64 0, .int .i64 0, .string ⟨#[]⟩] 68)) ⟨0, 0, ⟨#[]⟩⟩) := Lib.hid (VB.new _ _ _ _)
  go_enter Try.func38, Try.ntmps38
  go_wp2_with fail
  go_region_law (fail)
  go_wp2_with fail
  go_region_held3 (fun W => W.cell? ⟨w.heap.size, 0, none⟩ = some (.int .i64 0) ∧ W.cell? ⟨w.heap.size, 1, none⟩ = some (.int .i64 0) ∧ W.cell? ⟨w.heap.size, 2, none⟩ = some (.string ⟨#[]⟩))
    (first | exact HS.out.cells | exact HS.out.drew.cells | exact HS.out.drew.drew.cells | exact HS.out.set.cells | exact HS.out.drew.set.cells | exact HS.out.drew.drew.set.cells | go_keep)
    ((go_at_call 34
      refine (RA.out _).mono ?_
      rintro e w2 ⟨rfl, hb2⟩
      have HS := Lib.hid (VB.keep (by first | exact HS.out | exact HS.out.drew | exact HS.out.drew.drew | exact HS.out.drew.drew.drew) hb2)
      obtain ⟨f0, f1, f2⟩ := HS.out.froz
      clear hb2))
  go_wp2_with fail
  obtain ⟨z0, z1, z2⟩ := HS.out.set.cells
  refine bodyPost_ret (v := .tuple #[.agg #[.int .i64 0, .int .i64 0, .string ⟨#[]⟩], .slice (some ad) 0 0, .bool true]) (by simp [results, Try.results38, go_sem, z0, z1, z2]) rfl ?_
  exact HY.out _ HS.out.set.2
set_option maxRecDepth 100000 in
set_option maxHeartbeats 8000000 in
theorem cutValue_0c {C : Nat} (t : List UInt8) (ad : Addr) (cap : Nat) (w : World) (hab : ad.block < w.heap.size) (x0 : w.cell? ad = some (.int .u8 (0 : UInt8).toNat)) (hcap : t.length + 1 ≤ cap) (h1 : ¬ cap = 1) (hl : t.length + 1 ≤ 100000) (hC : C ≤ w.heap.size) (hr : RdB w C (some (ad.add 1)) t) :
    Calls Try.prog 38 #[.slice (some ad) (t.length + 1) cap] w (CVT C w (0 :: t)) := by
  have h1i : (1 : Int) ≤ (t.length : Int) + 1 := by omega
  have HY : Hid (∀ W, Below w.heap.size w W → CVT C w (0 :: t) (.returned (.tuple #[.agg #[.int .i64 0, .int .i64 0, .string ⟨#[]⟩], .slice (some (ad.add 1)) t.length (cap - 1), .bool true])) W) := Lib.hid fun W hb => ⟨hb, ⟨0, 0, ⟨#[]⟩⟩, _, _, _, _, rfl, .inl ⟨rfl, R_0, t, by rw [enc1_0]; rfl, rfl, hr.below hb hC, by omega⟩⟩
  have RA : Hid (∀ w, Calls Try.prog 34 #[.agg #[.int .i64 0, .int .i64 0, .string ⟨#[]⟩]] w (Ans (.bool true) w)) := Lib.hid fun w => by
    have h := right_at' ⟨0, 0, ⟨#[]⟩⟩ (by decide) w
    rw [R_0.1] at h
    exact h
  have HS : Hid (VB w (w.alloc (.cells #[.int .i64 0, .int .i64 0, .string ⟨#[]⟩] 68)) ⟨0, 0, ⟨#[]⟩⟩) := Lib.hid (VB.new _ _ _ _)
  clear hcap hl hr
  go_enter Try.func38, Try.ntmps38
  go_wp2_with fail
  go_region_law (fail)
  go_wp2_with fail
  go_region_held3 (fun W => W.cell? ⟨w.heap.size, 0, none⟩ = some (.int .i64 0) ∧ W.cell? ⟨w.heap.size, 1, none⟩ = some (.int .i64 0) ∧ W.cell? ⟨w.heap.size, 2, none⟩ = some (.string ⟨#[]⟩))
    (first | exact HS.out.cells | exact HS.out.drew.cells | exact HS.out.drew.drew.cells | exact HS.out.set.cells | exact HS.out.drew.set.cells | exact HS.out.drew.drew.set.cells | go_keep)
    ((go_at_call 34
      refine (RA.out _).mono ?_
      rintro e w2 ⟨rfl, hb2⟩
      have HS := Lib.hid (VB.keep (by first | exact HS.out | exact HS.out.drew | exact HS.out.drew.drew | exact HS.out.drew.drew.drew) hb2)
      obtain ⟨f0, f1, f2⟩ := HS.out.froz
      clear hb2))
  go_wp2_with fail
  obtain ⟨z0, z1, z2⟩ := HS.out.set.cells
  refine bodyPost_ret (v := .tuple #[.agg #[.int .i64 0, .int .i64 0, .string ⟨#[]⟩], .slice (some (ad.add 1)) t.length (cap - 1), .bool true]) (by simp [results, Try.results38, go_sem, z0, z1, z2]) rfl ?_
  exact HY.out _ HS.out.set.2
end Go.Proofs.Ytjnjolhokcmmhaa
