/- Package key: cutValue of a truth. -/
import Derived.Test.YtjnjolhokcmmhaaKDF
namespace Go.Proofs.Ytjnjolhokcmmhaa
open Go.RowKit
theorem right_no_bool {N : Int} (h : 1 < N) (h2 : N < 256) : rightB ⟨1, N, ⟨#[]⟩⟩ = false := by
  rw [Bool.eq_false_iff]
  intro hR
  rcases Val.R.cases (x := ⟨1, N, ⟨#[]⟩⟩) ⟨hR, ⟨by unfold i64ok; simp only; omega, by unfold i64ok; simp only; omega⟩⟩ with ⟨a, _⟩ | ⟨_, b, _⟩ | ⟨a, _⟩ | ⟨a, _⟩ <;> simp only at * <;> omega
set_option maxRecDepth 100000 in
set_option maxHeartbeats 8000000 in
theorem cutValue_1y {C : Nat} (t : List UInt8) (ad : Addr) (cap : Nat) (w : World) (hab : ad.block < w.heap.size) (x0 : w.cell? ad = some (.int .u8 (1 : UInt8).toNat)) (hcap : t.length + 1 ≤ cap) (h1 : ¬ cap = 1) (hl : t.length + 1 ≤ 100000) (hC : C ≤ w.heap.size) (hr : RdB w C (some (ad.add 1)) t) (hs : 1 ≤ t.length) (hu : beVal (t.take 1) ≤ 1) :
    Calls Try.prog 38 #[.slice (some ad) (t.length + 1) cap] w (CVT C w (1 :: t)) := by
  have h1i : (1 : Int) ≤ (t.length : Int) + 1 := by omega
  obtain ⟨u, HU⟩ : ∃ u : Int, Hid (u = (beVal (t.take 1) : Int)) := ⟨_, Lib.hid rfl⟩
  have HL : Hid (beVal (t.take 1) < 256) := Lib.hid (by
    have hv := beVal_lt (t.take 1)
    rw [show (t.take 1).length = 1 by rw [List.length_take]; omega] at hv
    omega)
  have hN : wrap64 u = u := by
    have hv := HL.out
    rw [HU.out]
    unfold wrap64
    omega
  have HRN : Hid (Val.R ⟨1, u, ⟨#[]⟩⟩ ∧ 1 :: t = enc1 ⟨1, u, ⟨#[]⟩⟩ ++ t.drop 1) := Lib.hid (by
    obtain ⟨d, hd, hv⟩ := take_one t hs
    rw [HU.out, hv]
    have h := yes_bool (d := d) (by omega) (t.drop 1)
    refine ⟨h.1, ?_⟩
    rw [← h.2, ← hd])
  have HY : Hid (∀ W A' cap', Below w.heap.size w W → RdB w C A' (t.drop 1) → t.length - 1 ≤ cap' → CVT C w (1 :: t) (.returned (.tuple #[.agg #[.int .i64 1, .int .i64 u, .string ⟨#[]⟩], .slice A' (t.length - 1) cap', .bool true])) W) := Lib.hid fun W A' cap' hb hr' hc' => ⟨hb, ⟨1, u, ⟨#[]⟩⟩, A', _, cap', true, rfl, .inl ⟨rfl, HRN.out.1, t.drop 1, HRN.out.2, List.length_drop.symm, hr'.below hb hC, by rw [List.length_drop]; exact hc'⟩⟩
  have CN : Hid (∀ W, VB w W ⟨1, 0, ⟨#[]⟩⟩ → W.heap.size = w.heap.size + 1 → Calls Try.prog 51 #[.slice (some (ad.add 1)) t.length (cap - 1), .int .i64 1] W (fun e w' => VB w w' ⟨1, 0, ⟨#[]⟩⟩ ∧ ∃ A' cap', e = .returned (.tuple #[.int .u64 u, .slice A' (t.length - 1) cap', .bool true]) ∧ RdB w C A' (t.drop 1) ∧ t.length - 1 ≤ cap')) := Lib.hid fun W hv hz => by rw [HU.out]; exact cut_num_yes (.inl rfl) (by omega) hC hr hs W hv hz
  have RA : Hid (∀ w, Calls Try.prog 34 #[.agg #[.int .i64 1, .int .i64 u, .string ⟨#[]⟩]] w (Ans (.bool true) w)) := Lib.hid fun w => by
    have h := right_at' ⟨1, u, ⟨#[]⟩⟩ (by exact Nat.zero_le _) w
    rw [HRN.out.1.1] at h
    exact h
  have HS : Hid (VB w (w.alloc (.cells #[.int .i64 1, .int .i64 0, .string ⟨#[]⟩] 68)) ⟨1, 0, ⟨#[]⟩⟩) := Lib.hid (VB.new _ _ _ _)
  clear hcap hl hr
  go_enter Try.func38, Try.ntmps38
  go_wp2_with fail
  go_region_law (fail)
  go_wp2_with (go_at_call 51; refine (CN.out _ (by first | exact HS.out | exact HS.out.drew | exact HS.out.drew.drew) (by simp)).mono ?_; rintro e w5 ⟨hv5, A', cap', rfl, hr5, hc5⟩
               obtain ⟨f0, f1, f2⟩ := hv5.froz
               obtain ⟨y0, y1, y2⟩ := hv5.cells
               have HS := Lib.hid (hv5.set1 u)
               have HY := Lib.hid (fun W hb => HY.out W A' cap' hb hr5 hc5)
               clear hv5 hr5 hc5)
  go_region_held3 (fun W => W.cell? ⟨w.heap.size, 0, none⟩ = some (.int .i64 1) ∧ W.cell? ⟨w.heap.size, 1, none⟩ = some (.int .i64 u) ∧ W.cell? ⟨w.heap.size, 2, none⟩ = some (.string ⟨#[]⟩))
    (first | exact HS.out.cells | exact HS.out.drew.cells | exact HS.out.drew.drew.cells | exact HS.out.set.cells | exact HS.out.drew.set.cells | exact HS.out.drew.drew.set.cells | go_keep)
    ((go_at_call 34
      refine (RA.out _).mono ?_
      rintro e w2 ⟨rfl, hb2⟩
      have HS := Lib.hid (VB.keep (by first | exact HS.out | exact HS.out.drew | exact HS.out.drew.drew | exact HS.out.drew.drew.drew) hb2)
      obtain ⟨f0, f1, f2⟩ := HS.out.froz
      clear hb2))
  go_wp2_with fail
  all_goals first
    | (obtain ⟨z0, z1, z2⟩ := HS.out.set.cells
       refine bodyPost_ret (v := .tuple #[.agg #[.int .i64 1, .int .i64 u, .string ⟨#[]⟩], .slice A' (t.length - 1) cap', .bool true]) (by simp [results, Try.results38, go_sem, z0, z1, z2]) rfl ?_
       exact HY.out _ HS.out.set.2)
    | (obtain ⟨z0, z1, z2⟩ := HS.out.set.drew.cells
       refine bodyPost_ret (v := .tuple #[.agg #[.int .i64 1, .int .i64 u, .string ⟨#[]⟩], .slice A' (t.length - 1) cap', .bool true]) (by simp [results, Try.results38, go_sem, z0, z1, z2]) rfl ?_
       exact HY.out _ HS.out.set.drew.2)
    | (obtain ⟨z0, z1, z2⟩ := HS.out.drew.set.cells
       refine bodyPost_ret (v := .tuple #[.agg #[.int .i64 1, .int .i64 u, .string ⟨#[]⟩], .slice A' (t.length - 1) cap', .bool true]) (by simp [results, Try.results38, go_sem, z0, z1, z2]) rfl ?_
       exact HY.out _ HS.out.drew.set.2)
    | (obtain ⟨z0, z1, z2⟩ := HS.out.set.drew.drew.cells
       refine bodyPost_ret (v := .tuple #[.agg #[.int .i64 1, .int .i64 u, .string ⟨#[]⟩], .slice A' (t.length - 1) cap', .bool true]) (by simp [results, Try.results38, go_sem, z0, z1, z2]) rfl ?_
       exact HY.out _ HS.out.set.drew.drew.2)
set_option maxRecDepth 100000 in
set_option maxHeartbeats 8000000 in
theorem cutValue_1b {C : Nat} (t : List UInt8) (ad : Addr) (cap : Nat) (w : World) (hab : ad.block < w.heap.size) (x0 : w.cell? ad = some (.int .u8 (1 : UInt8).toNat)) (hcap : t.length + 1 ≤ cap) (h1 : ¬ cap = 1) (hl : t.length + 1 ≤ 100000) (hC : C ≤ w.heap.size) (hr : RdB w C (some (ad.add 1)) t) (hs : 1 ≤ t.length) (hu : 1 < beVal (t.take 1)) :
    Calls Try.prog 38 #[.slice (some ad) (t.length + 1) cap] w (CVT C w (1 :: t)) := by
  have h1i : (1 : Int) ≤ (t.length : Int) + 1 := by omega
  obtain ⟨u, HU⟩ : ∃ u : Int, Hid (u = (beVal (t.take 1) : Int)) := ⟨_, Lib.hid rfl⟩
  have HL : Hid (beVal (t.take 1) < 256) := Lib.hid (by
    have hv := beVal_lt (t.take 1)
    rw [show (t.take 1).length = 1 by rw [List.length_take]; omega] at hv
    omega)
  have hN : wrap64 u = u := by
    have hv := HL.out
    rw [HU.out]
    unfold wrap64
    omega
  have HY : Hid (∀ W A' cap', Below w.heap.size w W → RdB w C A' (t.drop 1) → t.length - 1 ≤ cap' → CVT C w (1 :: t) (.returned (.tuple #[.agg #[.int .i64 1, .int .i64 u, .string ⟨#[]⟩], .slice A' (t.length - 1) cap', .bool false])) W) := Lib.hid fun W A' cap' hb hr' hc' => ⟨hb, ⟨1, u, ⟨#[]⟩⟩, A', _, cap', false, rfl, .inr ⟨rfl, by
    obtain ⟨d, hd, hv⟩ := take_one t hs
    rw [hd]
    exact no_bool (by omega)⟩⟩
  have CN : Hid (∀ W, VB w W ⟨1, 0, ⟨#[]⟩⟩ → W.heap.size = w.heap.size + 1 → Calls Try.prog 51 #[.slice (some (ad.add 1)) t.length (cap - 1), .int .i64 1] W (fun e w' => VB w w' ⟨1, 0, ⟨#[]⟩⟩ ∧ ∃ A' cap', e = .returned (.tuple #[.int .u64 u, .slice A' (t.length - 1) cap', .bool true]) ∧ RdB w C A' (t.drop 1) ∧ t.length - 1 ≤ cap')) := Lib.hid fun W hv hz => by rw [HU.out]; exact cut_num_yes (.inl rfl) (by omega) hC hr hs W hv hz
  have RA : Hid (∀ w, Calls Try.prog 34 #[.agg #[.int .i64 1, .int .i64 u, .string ⟨#[]⟩]] w (Ans (.bool false) w)) := Lib.hid fun w => by
    have h := right_at' ⟨1, u, ⟨#[]⟩⟩ (by exact Nat.zero_le _) w
    rw [right_no_bool (by rw [HU.out]; omega) (by rw [HU.out]; have := HL.out; omega)] at h
    exact h
  have HS : Hid (VB w (w.alloc (.cells #[.int .i64 1, .int .i64 0, .string ⟨#[]⟩] 68)) ⟨1, 0, ⟨#[]⟩⟩) := Lib.hid (VB.new _ _ _ _)
  clear hcap hl hr
  go_enter Try.func38, Try.ntmps38
  go_wp2_with fail
  go_region_law (fail)
  go_wp2_with (go_at_call 51; refine (CN.out _ (by first | exact HS.out | exact HS.out.drew | exact HS.out.drew.drew) (by simp)).mono ?_; rintro e w5 ⟨hv5, A', cap', rfl, hr5, hc5⟩
               obtain ⟨f0, f1, f2⟩ := hv5.froz
               obtain ⟨y0, y1, y2⟩ := hv5.cells
               have HS := Lib.hid (hv5.set1 u)
               have HY := Lib.hid (fun W hb => HY.out W A' cap' hb hr5 hc5)
               clear hv5 hr5 hc5)
  go_region_held3 (fun W => W.cell? ⟨w.heap.size, 0, none⟩ = some (.int .i64 1) ∧ W.cell? ⟨w.heap.size, 1, none⟩ = some (.int .i64 u) ∧ W.cell? ⟨w.heap.size, 2, none⟩ = some (.string ⟨#[]⟩))
    (first | exact HS.out.cells | exact HS.out.drew.cells | exact HS.out.drew.drew.cells | exact HS.out.set.cells | exact HS.out.drew.set.cells | exact HS.out.drew.drew.set.cells | go_keep)
    ((go_at_call 34
      refine (RA.out _).mono ?_
      rintro e w2 ⟨rfl, hb2⟩
      have HS := Lib.hid (VB.keep (by first | exact HS.out | exact HS.out.drew | exact HS.out.drew.drew | exact HS.out.drew.drew.drew) hb2)
      obtain ⟨f0, f1, f2⟩ := HS.out.froz
      clear hb2))
  go_wp2_with fail
  all_goals first
    | (obtain ⟨z0, z1, z2⟩ := HS.out.set.cells
       refine bodyPost_ret (v := .tuple #[.agg #[.int .i64 1, .int .i64 u, .string ⟨#[]⟩], .slice A' (t.length - 1) cap', .bool false]) (by simp [results, Try.results38, go_sem, z0, z1, z2]) rfl ?_
       exact HY.out _ HS.out.set.2)
    | (obtain ⟨z0, z1, z2⟩ := HS.out.set.drew.cells
       refine bodyPost_ret (v := .tuple #[.agg #[.int .i64 1, .int .i64 u, .string ⟨#[]⟩], .slice A' (t.length - 1) cap', .bool false]) (by simp [results, Try.results38, go_sem, z0, z1, z2]) rfl ?_
       exact HY.out _ HS.out.set.drew.2)
    | (obtain ⟨z0, z1, z2⟩ := HS.out.drew.set.cells
       refine bodyPost_ret (v := .tuple #[.agg #[.int .i64 1, .int .i64 u, .string ⟨#[]⟩], .slice A' (t.length - 1) cap', .bool false]) (by simp [results, Try.results38, go_sem, z0, z1, z2]) rfl ?_
       exact HY.out _ HS.out.drew.set.2)
    | (obtain ⟨z0, z1, z2⟩ := HS.out.set.drew.drew.cells
       refine bodyPost_ret (v := .tuple #[.agg #[.int .i64 1, .int .i64 u, .string ⟨#[]⟩], .slice A' (t.length - 1) cap', .bool false]) (by simp [results, Try.results38, go_sem, z0, z1, z2]) rfl ?_
       exact HY.out _ HS.out.set.drew.drew.2)
end Go.Proofs.Ytjnjolhokcmmhaa
