/- Package key: cutValue of a number. -/
import Derived.Test.YtjnjolhokcmmhaaKDF
namespace Go.Proofs.Ytjnjolhokcmmhaa
open Go.RowKit
set_option maxRecDepth 100000 in
set_option maxHeartbeats 8000000 in
theorem cutValue_2y {C : Nat} (t : List UInt8) (ad : Addr) (cap : Nat) (w : World) (hab : ad.block < w.heap.size) (x0 : w.cell? ad = some (.int .u8 (2 : UInt8).toNat)) (hcap : t.length + 1 ≤ cap) (h1 : ¬ cap = 1) (hl : t.length + 1 ≤ 100000) (hC : C ≤ w.heap.size) (hr : RdB w C (some (ad.add 1)) t) (hs : 8 ≤ t.length) :
    Calls Try.prog 38 #[.slice (some ad) (t.length + 1) cap] w (CVT C w (2 :: t)) := by
  have h1i : (1 : Int) ≤ (t.length : Int) + 1 := by omega
  obtain ⟨u, HU⟩ : ∃ u : Int, Hid (u = (beVal (t.take 8) : Int)) := ⟨_, Lib.hid rfl⟩
  obtain ⟨N, HN⟩ : ∃ N : Int, Hid (N = (beVal (t.take 8) : Int) - 9223372036854775808) := ⟨_, Lib.hid rfl⟩
  have HYN := Lib.hid (yes_num (c := 2) (t := t) (by decide) hs)
  have hN : wrap64 (IntKind.u64.wrap (u - 9223372036854775808)) = N := by
    have hv := beVal_lt (t.take 8)
    rw [show (t.take 8).length = 8 by rw [List.length_take]; omega, pow8] at hv
    rw [HN.out, HU.out, IntKind.wrap_u64]
    unfold wrap64
    omega
  have HRN : Hid (Val.R ⟨2, N, ⟨#[]⟩⟩ ∧ 2 :: t = enc1 ⟨2, N, ⟨#[]⟩⟩ ++ t.drop 8) := Lib.hid (by rw [HN.out]; exact HYN.out)
  have HY : Hid (∀ W A' cap', Below w.heap.size w W → RdB w C A' (t.drop 8) → t.length - 8 ≤ cap' → CVT C w (2 :: t) (.returned (.tuple #[.agg #[.int .i64 2, .int .i64 N, .string ⟨#[]⟩], .slice A' (t.length - 8) cap', .bool true])) W) := Lib.hid fun W A' cap' hb hr' hc' => ⟨hb, ⟨2, N, ⟨#[]⟩⟩, A', _, cap', true, rfl, .inl ⟨rfl, HRN.out.1, t.drop 8, HRN.out.2, List.length_drop.symm, hr'.below hb hC, by rw [List.length_drop]; exact hc'⟩⟩
  have CN : Hid (∀ W, VB w W ⟨2, 0, ⟨#[]⟩⟩ → W.heap.size = w.heap.size + 1 → Calls Try.prog 51 #[.slice (some (ad.add 1)) t.length (cap - 1), .int .i64 8] W (fun e w' => VB w w' ⟨2, 0, ⟨#[]⟩⟩ ∧ ∃ A' cap', e = .returned (.tuple #[.int .u64 u, .slice A' (t.length - 8) cap', .bool true]) ∧ RdB w C A' (t.drop 8) ∧ t.length - 8 ≤ cap')) := Lib.hid fun W hv hz => by rw [HU.out]; exact cut_num_yes (.inr rfl) (by omega) hC hr hs W hv hz
  have RA : Hid (∀ w, Calls Try.prog 34 #[.agg #[.int .i64 2, .int .i64 N, .string ⟨#[]⟩]] w (Ans (.bool true) w)) := Lib.hid fun w => by
    have h := right_at' ⟨2, N, ⟨#[]⟩⟩ (by exact Nat.zero_le _) w
    rw [HRN.out.1.1] at h
    exact h
  have HS : Hid (VB w (w.alloc (.cells #[.int .i64 2, .int .i64 0, .string ⟨#[]⟩] 68)) ⟨2, 0, ⟨#[]⟩⟩) := Lib.hid (VB.new _ _ _ _)
  clear hcap hl hr
  go_enter Try.func38, Try.ntmps38
  go_wp2_with fail
  go_region_law (fail)
  go_wp2_with (go_at_call 51; refine (CN.out _ (by first | exact HS.out | exact HS.out.drew | exact HS.out.drew.drew) (by simp)).mono ?_; rintro e w5 ⟨hv5, A', cap', rfl, hr5, hc5⟩
               obtain ⟨f0, f1, f2⟩ := hv5.froz
               obtain ⟨y0, y1, y2⟩ := hv5.cells
               have HS := Lib.hid (hv5.set1 N)
               have HY := Lib.hid (fun W hb => HY.out W A' cap' hb hr5 hc5)
               clear hv5 hr5 hc5)
  go_region_held3 (fun W => W.cell? ⟨w.heap.size, 0, none⟩ = some (.int .i64 2) ∧ W.cell? ⟨w.heap.size, 1, none⟩ = some (.int .i64 N) ∧ W.cell? ⟨w.heap.size, 2, none⟩ = some (.string ⟨#[]⟩))
    (first | exact HS.out.cells | exact HS.out.drew.cells | exact HS.out.drew.drew.cells | exact HS.out.set.cells | exact HS.out.drew.set.cells | exact HS.out.drew.drew.set.cells | go_keep)
    ((go_at_call 34
      refine (RA.out _).mono ?_
      rintro e w2 ⟨rfl, hb2⟩
      have HS := Lib.hid (VB.keep (by first | exact HS.out | exact HS.out.drew | exact HS.out.drew.drew | exact HS.out.drew.drew.drew) hb2)
      obtain ⟨f0, f1, f2⟩ := HS.out.froz
      clear hb2))
  go_wp2_with fail
  all_goals first
    | (obtain ⟨z0, z1, z2⟩ := HS.out.set.cells
       refine bodyPost_ret (v := .tuple #[.agg #[.int .i64 2, .int .i64 N, .string ⟨#[]⟩], .slice A' (t.length - 8) cap', .bool true]) (by simp [results, Try.results38, go_sem, z0, z1, z2]) rfl ?_
       exact HY.out _ HS.out.set.2)
    | (obtain ⟨z0, z1, z2⟩ := HS.out.set.drew.cells
       refine bodyPost_ret (v := .tuple #[.agg #[.int .i64 2, .int .i64 N, .string ⟨#[]⟩], .slice A' (t.length - 8) cap', .bool true]) (by simp [results, Try.results38, go_sem, z0, z1, z2]) rfl ?_
       exact HY.out _ HS.out.set.drew.2)
    | (obtain ⟨z0, z1, z2⟩ := HS.out.drew.set.cells
       refine bodyPost_ret (v := .tuple #[.agg #[.int .i64 2, .int .i64 N, .string ⟨#[]⟩], .slice A' (t.length - 8) cap', .bool true]) (by simp [results, Try.results38, go_sem, z0, z1, z2]) rfl ?_
       exact HY.out _ HS.out.drew.set.2)
    | (obtain ⟨z0, z1, z2⟩ := HS.out.set.drew.drew.cells
       refine bodyPost_ret (v := .tuple #[.agg #[.int .i64 2, .int .i64 N, .string ⟨#[]⟩], .slice A' (t.length - 8) cap', .bool true]) (by simp [results, Try.results38, go_sem, z0, z1, z2]) rfl ?_
       exact HY.out _ HS.out.set.drew.drew.2)
set_option maxRecDepth 100000 in
set_option maxHeartbeats 8000000 in
theorem cutValue_3y {C : Nat} (t : List UInt8) (ad : Addr) (cap : Nat) (w : World) (hab : ad.block < w.heap.size) (x0 : w.cell? ad = some (.int .u8 (3 : UInt8).toNat)) (hcap : t.length + 1 ≤ cap) (h1 : ¬ cap = 1) (hl : t.length + 1 ≤ 100000) (hC : C ≤ w.heap.size) (hr : RdB w C (some (ad.add 1)) t) (hs : 8 ≤ t.length) :
    Calls Try.prog 38 #[.slice (some ad) (t.length + 1) cap] w (CVT C w (3 :: t)) := by
  have h1i : (1 : Int) ≤ (t.length : Int) + 1 := by omega
  obtain ⟨u, HU⟩ : ∃ u : Int, Hid (u = (beVal (t.take 8) : Int)) := ⟨_, Lib.hid rfl⟩
  obtain ⟨N, HN⟩ : ∃ N : Int, Hid (N = (beVal (t.take 8) : Int) - 9223372036854775808) := ⟨_, Lib.hid rfl⟩
  have HYN := Lib.hid (yes_num (c := 3) (t := t) (by decide) hs)
  have hN : wrap64 (IntKind.u64.wrap (u - 9223372036854775808)) = N := by
    have hv := beVal_lt (t.take 8)
    rw [show (t.take 8).length = 8 by rw [List.length_take]; omega, pow8] at hv
    rw [HN.out, HU.out, IntKind.wrap_u64]
    unfold wrap64
    omega
  have HRN : Hid (Val.R ⟨3, N, ⟨#[]⟩⟩ ∧ 3 :: t = enc1 ⟨3, N, ⟨#[]⟩⟩ ++ t.drop 8) := Lib.hid (by rw [HN.out]; exact HYN.out)
  have HY : Hid (∀ W A' cap', Below w.heap.size w W → RdB w C A' (t.drop 8) → t.length - 8 ≤ cap' → CVT C w (3 :: t) (.returned (.tuple #[.agg #[.int .i64 3, .int .i64 N, .string ⟨#[]⟩], .slice A' (t.length - 8) cap', .bool true])) W) := Lib.hid fun W A' cap' hb hr' hc' => ⟨hb, ⟨3, N, ⟨#[]⟩⟩, A', _, cap', true, rfl, .inl ⟨rfl, HRN.out.1, t.drop 8, HRN.out.2, List.length_drop.symm, hr'.below hb hC, by rw [List.length_drop]; exact hc'⟩⟩
  have CN : Hid (∀ W, VB w W ⟨3, 0, ⟨#[]⟩⟩ → W.heap.size = w.heap.size + 1 → Calls Try.prog 51 #[.slice (some (ad.add 1)) t.length (cap - 1), .int .i64 8] W (fun e w' => VB w w' ⟨3, 0, ⟨#[]⟩⟩ ∧ ∃ A' cap', e = .returned (.tuple #[.int .u64 u, .slice A' (t.length - 8) cap', .bool true]) ∧ RdB w C A' (t.drop 8) ∧ t.length - 8 ≤ cap')) := Lib.hid fun W hv hz => by rw [HU.out]; exact cut_num_yes (.inr rfl) (by omega) hC hr hs W hv hz
  have RA : Hid (∀ w, Calls Try.prog 34 #[.agg #[.int .i64 3, .int .i64 N, .string ⟨#[]⟩]] w (Ans (.bool true) w)) := Lib.hid fun w => by
    have h := right_at' ⟨3, N, ⟨#[]⟩⟩ (by exact Nat.zero_le _) w
    rw [HRN.out.1.1] at h
    exact h
  have HS : Hid (VB w (w.alloc (.cells #[.int .i64 3, .int .i64 0, .string ⟨#[]⟩] 68)) ⟨3, 0, ⟨#[]⟩⟩) := Lib.hid (VB.new _ _ _ _)
  clear hcap hl hr
  go_enter Try.func38, Try.ntmps38
  go_wp2_with fail
  go_region_law (fail)
  go_wp2_with (go_at_call 51; refine (CN.out _ (by first | exact HS.out | exact HS.out.drew | exact HS.out.drew.drew) (by simp)).mono ?_; rintro e w5 ⟨hv5, A', cap', rfl, hr5, hc5⟩
               obtain ⟨f0, f1, f2⟩ := hv5.froz
               obtain ⟨y0, y1, y2⟩ := hv5.cells
               have HS := Lib.hid (hv5.set1 N)
               have HY := Lib.hid (fun W hb => HY.out W A' cap' hb hr5 hc5)
               clear hv5 hr5 hc5)
  go_region_held3 (fun W => W.cell? ⟨w.heap.size, 0, none⟩ = some (.int .i64 3) ∧ W.cell? ⟨w.heap.size, 1, none⟩ = some (.int .i64 N) ∧ W.cell? ⟨w.heap.size, 2, none⟩ = some (.string ⟨#[]⟩))
    (first | exact HS.out.cells | exact HS.out.drew.cells | exact HS.out.drew.drew.cells | exact HS.out.set.cells | exact HS.out.drew.set.cells | exact HS.out.drew.drew.set.cells | go_keep)
    ((go_at_call 34
      refine (RA.out _).mono ?_
      rintro e w2 ⟨rfl, hb2⟩
      have HS := Lib.hid (VB.keep (by first | exact HS.out | exact HS.out.drew | exact HS.out.drew.drew | exact HS.out.drew.drew.drew) hb2)
      obtain ⟨f0, f1, f2⟩ := HS.out.froz
      clear hb2))
  go_wp2_with fail
  all_goals first
    | (obtain ⟨z0, z1, z2⟩ := HS.out.set.cells
       refine bodyPost_ret (v := .tuple #[.agg #[.int .i64 3, .int .i64 N, .string ⟨#[]⟩], .slice A' (t.length - 8) cap', .bool true]) (by simp [results, Try.results38, go_sem, z0, z1, z2]) rfl ?_
       exact HY.out _ HS.out.set.2)
    | (obtain ⟨z0, z1, z2⟩ := HS.out.set.drew.cells
       refine bodyPost_ret (v := .tuple #[.agg #[.int .i64 3, .int .i64 N, .string ⟨#[]⟩], .slice A' (t.length - 8) cap', .bool true]) (by simp [results, Try.results38, go_sem, z0, z1, z2]) rfl ?_
       exact HY.out _ HS.out.set.drew.2)
    | (obtain ⟨z0, z1, z2⟩ := HS.out.drew.set.cells
       refine bodyPost_ret (v := .tuple #[.agg #[.int .i64 3, .int .i64 N, .string ⟨#[]⟩], .slice A' (t.length - 8) cap', .bool true]) (by simp [results, Try.results38, go_sem, z0, z1, z2]) rfl ?_
       exact HY.out _ HS.out.drew.set.2)
    | (obtain ⟨z0, z1, z2⟩ := HS.out.set.drew.drew.cells
       refine bodyPost_ret (v := .tuple #[.agg #[.int .i64 3, .int .i64 N, .string ⟨#[]⟩], .slice A' (t.length - 8) cap', .bool true]) (by simp [results, Try.results38, go_sem, z0, z1, z2]) rfl ?_
       exact HY.out _ HS.out.set.drew.drew.2)
end Go.Proofs.Ytjnjolhokcmmhaa
