/- Package key: cutValue of a byte that is no kind. -/
import Derived.Test.YtjnjolhokcmmhaaKDF
namespace Go.Proofs.Ytjnjolhokcmmhaa
open Go.RowKit
theorem right_no_kind {k : Int} (h : 5 < k) : rightB ⟨k, 0, ⟨#[]⟩⟩ = false := by
  unfold rightB
  rw [if_neg (by simp only; omega), if_neg (by simp only; omega), if_neg (by simp only; omega)]
set_option maxRecDepth 100000 in
set_option maxHeartbeats 8000000 in
theorem cutValue_xn {C : Nat} (ad : Addr) (w : World) (c : UInt8) (hc5 : 5 < c.toNat) (hab : ad.block < w.heap.size) (x0 : w.cell? ad = some (.int .u8 (c : UInt8).toNat)) :
    Calls Try.prog 38 #[.slice (some ad) 1 1] w (CVT C w (c :: [])) := by
  obtain ⟨k, HK⟩ : ∃ k : Int, Hid (k = (c.toNat : Int)) := ⟨_, Lib.hid rfl⟩
  have hk5 : 5 < k := by rw [HK.out]; omega
  have hk9 : k < 256 := by have := c.toNat_lt; rw [HK.out]; omega
  rw [← HK.out] at x0
  have hw : wrap64 k = k := by unfold wrap64; omega
  have e1 : (k == 1) = false := beq_false_of_ne (by omega)
  have e2 : (k == 2) = false := beq_false_of_ne (by omega)
  have e3 : (k == 3) = false := beq_false_of_ne (by omega)
  have e4 : (k == 4) = false := beq_false_of_ne (by omega)
  have e5 : (k == 5) = false := beq_false_of_ne (by omega)
  have HR5 := Lib.hid hk5
  clear hk5 hk9
  have HY : Hid (∀ W, Below w.heap.size w W → CVT C w (c :: []) (.returned (.tuple #[.agg #[.int .i64 k, .int .i64 0, .string ⟨#[]⟩], .slice (some ad) 0 0, .bool false])) W) := Lib.hid fun W hb => ⟨hb, ⟨k, 0, ⟨#[]⟩⟩, _, _, _, false, rfl, .inr ⟨rfl, no_kind hc5⟩⟩
  have RA : Hid (∀ w, Calls Try.prog 34 #[.agg #[.int .i64 k, .int .i64 0, .string ⟨#[]⟩]] w (Ans (.bool false) w)) := Lib.hid fun w => by
    have h := right_at' ⟨k, 0, ⟨#[]⟩⟩ (by exact Nat.zero_le _) w
    rw [right_no_kind HR5.out] at h
    exact h
  have HS : Hid (VB w (w.alloc (.cells #[.int .i64 k, .int .i64 0, .string ⟨#[]⟩] 68)) ⟨k, 0, ⟨#[]⟩⟩) := Lib.hid (VB.new _ _ _ _)
  go_enter Try.func38, Try.ntmps38
  go_wp2_with fail
  go_region_law (fail)
  go_wp2_with fail
  go_region_held3 (fun W => W.cell? ⟨w.heap.size, 0, none⟩ = some (.int .i64 k) ∧ W.cell? ⟨w.heap.size, 1, none⟩ = some (.int .i64 0) ∧ W.cell? ⟨w.heap.size, 2, none⟩ = some (.string ⟨#[]⟩))
    (first | exact HS.out.cells | exact HS.out.drew.cells | exact HS.out.drew.drew.cells | exact HS.out.set.cells | exact HS.out.drew.set.cells | exact HS.out.drew.drew.set.cells | go_keep)
    ((go_at_call 34
      refine (RA.out _).mono ?_
      rintro e w2 ⟨rfl, hb2⟩
      have HS := Lib.hid (VB.keep (by first | exact HS.out | exact HS.out.drew | exact HS.out.drew.drew | exact HS.out.drew.drew.drew) hb2)
      obtain ⟨f0, f1, f2⟩ := HS.out.froz
      clear hb2))
  go_wp2_with fail
  all_goals first
    | (obtain ⟨z0, z1, z2⟩ := HS.out.set.cells
       refine bodyPost_ret (v := .tuple #[.agg #[.int .i64 k, .int .i64 0, .string ⟨#[]⟩], .slice (some ad) 0 0, .bool false]) (by simp [results, Try.results38, go_sem, z0, z1, z2]) rfl ?_
       exact HY.out _ HS.out.set.2)
    | (obtain ⟨z0, z1, z2⟩ := HS.out.set.drew.cells
       refine bodyPost_ret (v := .tuple #[.agg #[.int .i64 k, .int .i64 0, .string ⟨#[]⟩], .slice (some ad) 0 0, .bool false]) (by simp [results, Try.results38, go_sem, z0, z1, z2]) rfl ?_
       exact HY.out _ HS.out.set.drew.2)
    | (obtain ⟨z0, z1, z2⟩ := HS.out.drew.set.cells
       refine bodyPost_ret (v := .tuple #[.agg #[.int .i64 k, .int .i64 0, .string ⟨#[]⟩], .slice (some ad) 0 0, .bool false]) (by simp [results, Try.results38, go_sem, z0, z1, z2]) rfl ?_
       exact HY.out _ HS.out.drew.set.2)
    | (obtain ⟨z0, z1, z2⟩ := HS.out.set.drew.drew.cells
       refine bodyPost_ret (v := .tuple #[.agg #[.int .i64 k, .int .i64 0, .string ⟨#[]⟩], .slice (some ad) 0 0, .bool false]) (by simp [results, Try.results38, go_sem, z0, z1, z2]) rfl ?_
       exact HY.out _ HS.out.set.drew.drew.2)
set_option maxRecDepth 100000 in
set_option maxHeartbeats 8000000 in
theorem cutValue_xc {C : Nat} (t : List UInt8) (ad : Addr) (cap : Nat) (w : World) (c : UInt8) (hc5 : 5 < c.toNat) (hab : ad.block < w.heap.size) (x0 : w.cell? ad = some (.int .u8 (c : UInt8).toNat)) (_hcap : t.length + 1 ≤ cap) (h1 : ¬ cap = 1) (hl : t.length + 1 ≤ 100000) (_hr : RdB w C (some (ad.add 1)) t) :
    Calls Try.prog 38 #[.slice (some ad) (t.length + 1) cap] w (CVT C w (c :: t)) := by
  have h1i : (1 : Int) ≤ (t.length : Int) + 1 := by omega
  obtain ⟨k, HK⟩ : ∃ k : Int, Hid (k = (c.toNat : Int)) := ⟨_, Lib.hid rfl⟩
  have hk5 : 5 < k := by rw [HK.out]; omega
  have hk9 : k < 256 := by have := c.toNat_lt; rw [HK.out]; omega
  rw [← HK.out] at x0
  have hw : wrap64 k = k := by unfold wrap64; omega
  have e1 : (k == 1) = false := beq_false_of_ne (by omega)
  have e2 : (k == 2) = false := beq_false_of_ne (by omega)
  have e3 : (k == 3) = false := beq_false_of_ne (by omega)
  have e4 : (k == 4) = false := beq_false_of_ne (by omega)
  have e5 : (k == 5) = false := beq_false_of_ne (by omega)
  have HR5 := Lib.hid hk5
  clear hk5 hk9
  have HY : Hid (∀ W, Below w.heap.size w W → CVT C w (c :: t) (.returned (.tuple #[.agg #[.int .i64 k, .int .i64 0, .string ⟨#[]⟩], .slice (some (ad.add 1)) t.length (cap - 1), .bool false])) W) := Lib.hid fun W hb => ⟨hb, ⟨k, 0, ⟨#[]⟩⟩, _, _, _, false, rfl, .inr ⟨rfl, no_kind hc5⟩⟩
  have RA : Hid (∀ w, Calls Try.prog 34 #[.agg #[.int .i64 k, .int .i64 0, .string ⟨#[]⟩]] w (Ans (.bool false) w)) := Lib.hid fun w => by
    have h := right_at' ⟨k, 0, ⟨#[]⟩⟩ (by exact Nat.zero_le _) w
    rw [right_no_kind HR5.out] at h
    exact h
  have HS : Hid (VB w (w.alloc (.cells #[.int .i64 k, .int .i64 0, .string ⟨#[]⟩] 68)) ⟨k, 0, ⟨#[]⟩⟩) := Lib.hid (VB.new _ _ _ _)
  go_enter Try.func38, Try.ntmps38
  go_wp2_with fail
  go_region_law (fail)
  go_wp2_with fail
  go_region_held3 (fun W => W.cell? ⟨w.heap.size, 0, none⟩ = some (.int .i64 k) ∧ W.cell? ⟨w.heap.size, 1, none⟩ = some (.int .i64 0) ∧ W.cell? ⟨w.heap.size, 2, none⟩ = some (.string ⟨#[]⟩))
    (first | exact HS.out.cells | exact HS.out.drew.cells | exact HS.out.drew.drew.cells | exact HS.out.set.cells | exact HS.out.drew.set.cells | exact HS.out.drew.drew.set.cells | go_keep)
    ((go_at_call 34
      refine (RA.out _).mono ?_
      rintro e w2 ⟨rfl, hb2⟩
      have HS := Lib.hid (VB.keep (by first | exact HS.out | exact HS.out.drew | exact HS.out.drew.drew | exact HS.out.drew.drew.drew) hb2)
      obtain ⟨f0, f1, f2⟩ := HS.out.froz
      clear hb2))
  go_wp2_with fail
  all_goals first
    | (obtain ⟨z0, z1, z2⟩ := HS.out.set.cells
       refine bodyPost_ret (v := .tuple #[.agg #[.int .i64 k, .int .i64 0, .string ⟨#[]⟩], .slice (some (ad.add 1)) t.length (cap - 1), .bool false]) (by simp [results, Try.results38, go_sem, z0, z1, z2]) rfl ?_
       exact HY.out _ HS.out.set.2)
    | (obtain ⟨z0, z1, z2⟩ := HS.out.set.drew.cells
       refine bodyPost_ret (v := .tuple #[.agg #[.int .i64 k, .int .i64 0, .string ⟨#[]⟩], .slice (some (ad.add 1)) t.length (cap - 1), .bool false]) (by simp [results, Try.results38, go_sem, z0, z1, z2]) rfl ?_
       exact HY.out _ HS.out.set.drew.2)
    | (obtain ⟨z0, z1, z2⟩ := HS.out.drew.set.cells
       refine bodyPost_ret (v := .tuple #[.agg #[.int .i64 k, .int .i64 0, .string ⟨#[]⟩], .slice (some (ad.add 1)) t.length (cap - 1), .bool false]) (by simp [results, Try.results38, go_sem, z0, z1, z2]) rfl ?_
       exact HY.out _ HS.out.drew.set.2)
    | (obtain ⟨z0, z1, z2⟩ := HS.out.set.drew.drew.cells
       refine bodyPost_ret (v := .tuple #[.agg #[.int .i64 k, .int .i64 0, .string ⟨#[]⟩], .slice (some (ad.add 1)) t.length (cap - 1), .bool false]) (by simp [results, Try.results38, go_sem, z0, z1, z2]) rfl ?_
       exact HY.out _ HS.out.set.drew.drew.2)
end Go.Proofs.Ytjnjolhokcmmhaa
