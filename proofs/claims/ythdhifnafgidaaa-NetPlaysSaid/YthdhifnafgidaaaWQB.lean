/- Package row: takeValue, by kind. -/
import Derived.Test.YthdhifnafgidaaaWP
namespace Go.Proofs.Ythdhifnafgidaaa
open Go.RowKit

set_option maxRecDepth 100000 in
set_option maxHeartbeats 8000000 in
theorem tv_2y (u : Nat) (r : List UInt8) (g B : Nat) (w : World) (h : Src w g B (2 :: (vL u ++ r))) (hu : u < 18446744073709551616) : Calls Try.prog 52 #[.func (.func 63) #[] #[.pointer (some ⟨g, 0, none⟩)]] w (TVT w g B (2 :: (vL u ++ r))) := by
  have HS := Lib.hid (GS.new h 0 0 ⟨#[]⟩)
  clear h
  obtain ⟨n, HN⟩ : ∃ n : Int, Hid (n = zag u) := ⟨_, Lib.hid rfl⟩
  have HRN : Hid (Val.R ⟨2, n, ⟨#[]⟩⟩ ∧ 2 :: (vL u ++ r) = rowV ⟨2, n, ⟨#[]⟩⟩ ++ r) := Lib.hid (by rw [HN.out]; exact row_num (c := 2) (by decide) hu r)
  have HU := Lib.hid hu
  clear hu
  have HY : Hid (∀ W, GS w g B W ⟨2, n, ⟨#[]⟩⟩ (r) → TVT w g B (2 :: (vL u ++ r)) (.returned (.tuple #[.agg #[.int .i64 2, .int .i64 n, .string ⟨#[]⟩], .bool true])) W) := Lib.hid fun W hW => ⟨hW.gr, ⟨2, n, ⟨#[]⟩⟩, true, r, rfl, hW.src, .inl ⟨rfl, HRN.out⟩⟩
  have RA : Hid (∀ w, Calls Try.prog 48 #[.agg #[.int .i64 2, .int .i64 n, .string ⟨#[]⟩]] w (Ans (.bool true) w)) := Lib.hid fun w => by
    have h := right_at' ⟨2, n, ⟨#[]⟩⟩ (by exact Nat.zero_le _) w
    rw [show rightB ⟨2, n, ⟨#[]⟩⟩ = true from HRN.out.1.1] at h
    exact h
  go_enter Try.func52, Try.ntmps52
  go_wp2_with fail
  refine (nextX_at _ g B 2 (vL u ++ r) 2 (by first | rfl | decide | exact HXC.out) HS.out.src).mono ?_
  rintro e w1 ⟨rfl, hs1, hg1⟩
  have HV := Lib.hid (HS.out.next hs1 hg1)
  obtain ⟨f0, f1, f2⟩ := HV.out.froz
  obtain ⟨y0, y1, y2⟩ := HV.out.cells
  have HS := Lib.hid (HV.out.set0 2)
  clear hs1 hg1
  go_wp2_with fail
  refine (takeNumber_yes u r g B _ HU.out HS.out.src).mono ?_
  rintro e w3 ⟨rfl, hs3, hg3⟩
  rw [← HN.out]
  have HV := Lib.hid (HS.out.next hs3 hg3)
  obtain ⟨f0, f1, f2⟩ := HV.out.froz
  obtain ⟨y0, y1, y2⟩ := HV.out.cells
  have HS := Lib.hid (HV.out.set1 n)
  clear hs3 hg3
  go_wp2_with fail
  go_region_held3 (fun W => W.cell? ⟨w.heap.size, 0, none⟩ = some (.int .i64 2) ∧ W.cell? ⟨w.heap.size, 1, none⟩ = some (.int .i64 n) ∧ W.cell? ⟨w.heap.size, 2, none⟩ = some (.string ⟨#[]⟩))
    (first | exact HS.out.cells | exact HS.out.drew.cells | exact HS.out.drew.drew.cells | exact HS.out.set.cells | exact HS.out.drew.set.cells | exact HS.out.drew.drew.set.cells | go_keep)
    ((go_at_call 48
      refine (RA.out _).mono ?_
      rintro e w2 ⟨rfl, hb2⟩
      have HS := Lib.hid (GS.keep (by first | exact HS.out | exact HS.out.drew | exact HS.out.drew.drew | exact HS.out.drew.drew.drew) hb2)
      obtain ⟨f0, f1, f2⟩ := HS.out.froz
      clear hb2))
  all_goals go_wp2_with fail
  all_goals first
    | (obtain ⟨z0, z1, z2⟩ := HS.out.set.cells
       refine bodyPost_ret (v := .tuple #[.agg #[.int .i64 2, .int .i64 n, .string ⟨#[]⟩], .bool true]) (by simp [results, Try.results52, go_sem, z0, z1, z2]) rfl ?_
       exact HY.out _ HS.out.set)
    | (obtain ⟨z0, z1, z2⟩ := HS.out.set.drew.cells
       refine bodyPost_ret (v := .tuple #[.agg #[.int .i64 2, .int .i64 n, .string ⟨#[]⟩], .bool true]) (by simp [results, Try.results52, go_sem, z0, z1, z2]) rfl ?_
       exact HY.out _ HS.out.set.drew)
    | (obtain ⟨z0, z1, z2⟩ := HS.out.drew.set.cells
       refine bodyPost_ret (v := .tuple #[.agg #[.int .i64 2, .int .i64 n, .string ⟨#[]⟩], .bool true]) (by simp [results, Try.results52, go_sem, z0, z1, z2]) rfl ?_
       exact HY.out _ HS.out.drew.set)
    | (obtain ⟨z0, z1, z2⟩ := HS.out.set.drew.drew.cells
       refine bodyPost_ret (v := .tuple #[.agg #[.int .i64 2, .int .i64 n, .string ⟨#[]⟩], .bool true]) (by simp [results, Try.results52, go_sem, z0, z1, z2]) rfl ?_
       exact HY.out _ HS.out.set.drew.drew)
    | (obtain ⟨z0, z1, z2⟩ := HS.out.drew.drew.set.cells
       refine bodyPost_ret (v := .tuple #[.agg #[.int .i64 2, .int .i64 n, .string ⟨#[]⟩], .bool true]) (by simp [results, Try.results52, go_sem, z0, z1, z2]) rfl ?_
       exact HY.out _ HS.out.drew.drew.set)
    | fail
set_option maxRecDepth 100000 in
set_option maxHeartbeats 8000000 in
theorem tv_2n (t : List UInt8) (g B : Nat) (w : World) (h : Src w g B (2 :: t)) (hno : ∀ u r, u < 18446744073709551616 → t ≠ vL u ++ r) : Calls Try.prog 52 #[.func (.func 63) #[] #[.pointer (some ⟨g, 0, none⟩)]] w (TVT w g B (2 :: t)) := by
  have HS := Lib.hid (GS.new h 0 0 ⟨#[]⟩)
  clear h
  have HNO := Lib.hid hno
  clear hno
  have HY : Hid (∀ W r, GS w g B W ⟨2, 0, ⟨#[]⟩⟩ r → TVT w g B (2 :: t) (.returned (.tuple #[.agg #[.int .i64 2, .int .i64 0, .string ⟨#[]⟩], .bool false])) W) := Lib.hid fun W r hW => ⟨hW.gr, ⟨2, 0, ⟨#[]⟩⟩, false, r, rfl, hW.src, .inr ⟨rfl, row_numn (c := 2) (by decide) HNO.out⟩⟩
  go_enter Try.func52, Try.ntmps52
  go_wp2_with fail
  refine (nextX_at _ g B 2 t 2 (by first | rfl | decide | exact HXC.out) HS.out.src).mono ?_
  rintro e w1 ⟨rfl, hs1, hg1⟩
  have HV := Lib.hid (HS.out.next hs1 hg1)
  obtain ⟨f0, f1, f2⟩ := HV.out.froz
  obtain ⟨y0, y1, y2⟩ := HV.out.cells
  have HS := Lib.hid (HV.out.set0 2)
  clear hs1 hg1
  go_wp2_with fail
  refine (takeNumber_no t g B _ HNO.out HS.out.src).mono ?_
  rintro e w3 ⟨rfl, r3, hs3, hg3⟩
  have HV := Lib.hid (HS.out.next hs3 hg3)
  obtain ⟨f0, f1, f2⟩ := HV.out.froz
  obtain ⟨y0, y1, y2⟩ := HV.out.cells
  have HS := Lib.hid (HV.out.set1 0)
  clear hs3 hg3
  go_wp2_with fail
  first | (go_region_law (fail)) | fail
  all_goals go_wp2_with fail
  all_goals first
    | (obtain ⟨z0, z1, z2⟩ := HS.out.set.cells
       refine bodyPost_ret (v := .tuple #[.agg #[.int .i64 2, .int .i64 0, .string ⟨#[]⟩], .bool false]) (by simp [results, Try.results52, go_sem, z0, z1, z2]) rfl ?_
       exact HY.out _ _ HS.out.set)
    | (obtain ⟨z0, z1, z2⟩ := HS.out.set.drew.cells
       refine bodyPost_ret (v := .tuple #[.agg #[.int .i64 2, .int .i64 0, .string ⟨#[]⟩], .bool false]) (by simp [results, Try.results52, go_sem, z0, z1, z2]) rfl ?_
       exact HY.out _ _ HS.out.set.drew)
    | (obtain ⟨z0, z1, z2⟩ := HS.out.drew.set.cells
       refine bodyPost_ret (v := .tuple #[.agg #[.int .i64 2, .int .i64 0, .string ⟨#[]⟩], .bool false]) (by simp [results, Try.results52, go_sem, z0, z1, z2]) rfl ?_
       exact HY.out _ _ HS.out.drew.set)
    | (obtain ⟨z0, z1, z2⟩ := HS.out.set.drew.drew.cells
       refine bodyPost_ret (v := .tuple #[.agg #[.int .i64 2, .int .i64 0, .string ⟨#[]⟩], .bool false]) (by simp [results, Try.results52, go_sem, z0, z1, z2]) rfl ?_
       exact HY.out _ _ HS.out.set.drew.drew)
    | (obtain ⟨z0, z1, z2⟩ := HS.out.drew.drew.set.cells
       refine bodyPost_ret (v := .tuple #[.agg #[.int .i64 2, .int .i64 0, .string ⟨#[]⟩], .bool false]) (by simp [results, Try.results52, go_sem, z0, z1, z2]) rfl ?_
       exact HY.out _ _ HS.out.drew.drew.set)
    | fail
set_option maxRecDepth 100000 in
set_option maxHeartbeats 8000000 in
theorem tv_3y (u : Nat) (r : List UInt8) (g B : Nat) (w : World) (h : Src w g B (3 :: (vL u ++ r))) (hu : u < 18446744073709551616) : Calls Try.prog 52 #[.func (.func 63) #[] #[.pointer (some ⟨g, 0, none⟩)]] w (TVT w g B (3 :: (vL u ++ r))) := by
  have HS := Lib.hid (GS.new h 0 0 ⟨#[]⟩)
  clear h
  obtain ⟨n, HN⟩ : ∃ n : Int, Hid (n = zag u) := ⟨_, Lib.hid rfl⟩
  have HRN : Hid (Val.R ⟨3, n, ⟨#[]⟩⟩ ∧ 3 :: (vL u ++ r) = rowV ⟨3, n, ⟨#[]⟩⟩ ++ r) := Lib.hid (by rw [HN.out]; exact row_num (c := 3) (by decide) hu r)
  have HU := Lib.hid hu
  clear hu
  have HY : Hid (∀ W, GS w g B W ⟨3, n, ⟨#[]⟩⟩ (r) → TVT w g B (3 :: (vL u ++ r)) (.returned (.tuple #[.agg #[.int .i64 3, .int .i64 n, .string ⟨#[]⟩], .bool true])) W) := Lib.hid fun W hW => ⟨hW.gr, ⟨3, n, ⟨#[]⟩⟩, true, r, rfl, hW.src, .inl ⟨rfl, HRN.out⟩⟩
  have RA : Hid (∀ w, Calls Try.prog 48 #[.agg #[.int .i64 3, .int .i64 n, .string ⟨#[]⟩]] w (Ans (.bool true) w)) := Lib.hid fun w => by
    have h := right_at' ⟨3, n, ⟨#[]⟩⟩ (by exact Nat.zero_le _) w
    rw [show rightB ⟨3, n, ⟨#[]⟩⟩ = true from HRN.out.1.1] at h
    exact h
  go_enter Try.func52, Try.ntmps52
  go_wp2_with fail
  refine (nextX_at _ g B 3 (vL u ++ r) 3 (by first | rfl | decide | exact HXC.out) HS.out.src).mono ?_
  rintro e w1 ⟨rfl, hs1, hg1⟩
  have HV := Lib.hid (HS.out.next hs1 hg1)
  obtain ⟨f0, f1, f2⟩ := HV.out.froz
  obtain ⟨y0, y1, y2⟩ := HV.out.cells
  have HS := Lib.hid (HV.out.set0 3)
  clear hs1 hg1
  go_wp2_with fail
  refine (takeNumber_yes u r g B _ HU.out HS.out.src).mono ?_
  rintro e w3 ⟨rfl, hs3, hg3⟩
  rw [← HN.out]
  have HV := Lib.hid (HS.out.next hs3 hg3)
  obtain ⟨f0, f1, f2⟩ := HV.out.froz
  obtain ⟨y0, y1, y2⟩ := HV.out.cells
  have HS := Lib.hid (HV.out.set1 n)
  clear hs3 hg3
  go_wp2_with fail
  go_region_held3 (fun W => W.cell? ⟨w.heap.size, 0, none⟩ = some (.int .i64 3) ∧ W.cell? ⟨w.heap.size, 1, none⟩ = some (.int .i64 n) ∧ W.cell? ⟨w.heap.size, 2, none⟩ = some (.string ⟨#[]⟩))
    (first | exact HS.out.cells | exact HS.out.drew.cells | exact HS.out.drew.drew.cells | exact HS.out.set.cells | exact HS.out.drew.set.cells | exact HS.out.drew.drew.set.cells | go_keep)
    ((go_at_call 48
      refine (RA.out _).mono ?_
      rintro e w2 ⟨rfl, hb2⟩
      have HS := Lib.hid (GS.keep (by first | exact HS.out | exact HS.out.drew | exact HS.out.drew.drew | exact HS.out.drew.drew.drew) hb2)
      obtain ⟨f0, f1, f2⟩ := HS.out.froz
      clear hb2))
  all_goals go_wp2_with fail
  all_goals first
    | (obtain ⟨z0, z1, z2⟩ := HS.out.set.cells
       refine bodyPost_ret (v := .tuple #[.agg #[.int .i64 3, .int .i64 n, .string ⟨#[]⟩], .bool true]) (by simp [results, Try.results52, go_sem, z0, z1, z2]) rfl ?_
       exact HY.out _ HS.out.set)
    | (obtain ⟨z0, z1, z2⟩ := HS.out.set.drew.cells
       refine bodyPost_ret (v := .tuple #[.agg #[.int .i64 3, .int .i64 n, .string ⟨#[]⟩], .bool true]) (by simp [results, Try.results52, go_sem, z0, z1, z2]) rfl ?_
       exact HY.out _ HS.out.set.drew)
    | (obtain ⟨z0, z1, z2⟩ := HS.out.drew.set.cells
       refine bodyPost_ret (v := .tuple #[.agg #[.int .i64 3, .int .i64 n, .string ⟨#[]⟩], .bool true]) (by simp [results, Try.results52, go_sem, z0, z1, z2]) rfl ?_
       exact HY.out _ HS.out.drew.set)
    | (obtain ⟨z0, z1, z2⟩ := HS.out.set.drew.drew.cells
       refine bodyPost_ret (v := .tuple #[.agg #[.int .i64 3, .int .i64 n, .string ⟨#[]⟩], .bool true]) (by simp [results, Try.results52, go_sem, z0, z1, z2]) rfl ?_
       exact HY.out _ HS.out.set.drew.drew)
    | (obtain ⟨z0, z1, z2⟩ := HS.out.drew.drew.set.cells
       refine bodyPost_ret (v := .tuple #[.agg #[.int .i64 3, .int .i64 n, .string ⟨#[]⟩], .bool true]) (by simp [results, Try.results52, go_sem, z0, z1, z2]) rfl ?_
       exact HY.out _ HS.out.drew.drew.set)
    | fail
set_option maxRecDepth 100000 in
set_option maxHeartbeats 8000000 in
theorem tv_3n (t : List UInt8) (g B : Nat) (w : World) (h : Src w g B (3 :: t)) (hno : ∀ u r, u < 18446744073709551616 → t ≠ vL u ++ r) : Calls Try.prog 52 #[.func (.func 63) #[] #[.pointer (some ⟨g, 0, none⟩)]] w (TVT w g B (3 :: t)) := by
  have HS := Lib.hid (GS.new h 0 0 ⟨#[]⟩)
  clear h
  have HNO := Lib.hid hno
  clear hno
  have HY : Hid (∀ W r, GS w g B W ⟨3, 0, ⟨#[]⟩⟩ r → TVT w g B (3 :: t) (.returned (.tuple #[.agg #[.int .i64 3, .int .i64 0, .string ⟨#[]⟩], .bool false])) W) := Lib.hid fun W r hW => ⟨hW.gr, ⟨3, 0, ⟨#[]⟩⟩, false, r, rfl, hW.src, .inr ⟨rfl, row_numn (c := 3) (by decide) HNO.out⟩⟩
  go_enter Try.func52, Try.ntmps52
  go_wp2_with fail
  refine (nextX_at _ g B 3 t 3 (by first | rfl | decide | exact HXC.out) HS.out.src).mono ?_
  rintro e w1 ⟨rfl, hs1, hg1⟩
  have HV := Lib.hid (HS.out.next hs1 hg1)
  obtain ⟨f0, f1, f2⟩ := HV.out.froz
  obtain ⟨y0, y1, y2⟩ := HV.out.cells
  have HS := Lib.hid (HV.out.set0 3)
  clear hs1 hg1
  go_wp2_with fail
  refine (takeNumber_no t g B _ HNO.out HS.out.src).mono ?_
  rintro e w3 ⟨rfl, r3, hs3, hg3⟩
  have HV := Lib.hid (HS.out.next hs3 hg3)
  obtain ⟨f0, f1, f2⟩ := HV.out.froz
  obtain ⟨y0, y1, y2⟩ := HV.out.cells
  have HS := Lib.hid (HV.out.set1 0)
  clear hs3 hg3
  go_wp2_with fail
  first | (go_region_law (fail)) | fail
  all_goals go_wp2_with fail
  all_goals first
    | (obtain ⟨z0, z1, z2⟩ := HS.out.set.cells
       refine bodyPost_ret (v := .tuple #[.agg #[.int .i64 3, .int .i64 0, .string ⟨#[]⟩], .bool false]) (by simp [results, Try.results52, go_sem, z0, z1, z2]) rfl ?_
       exact HY.out _ _ HS.out.set)
    | (obtain ⟨z0, z1, z2⟩ := HS.out.set.drew.cells
       refine bodyPost_ret (v := .tuple #[.agg #[.int .i64 3, .int .i64 0, .string ⟨#[]⟩], .bool false]) (by simp [results, Try.results52, go_sem, z0, z1, z2]) rfl ?_
       exact HY.out _ _ HS.out.set.drew)
    | (obtain ⟨z0, z1, z2⟩ := HS.out.drew.set.cells
       refine bodyPost_ret (v := .tuple #[.agg #[.int .i64 3, .int .i64 0, .string ⟨#[]⟩], .bool false]) (by simp [results, Try.results52, go_sem, z0, z1, z2]) rfl ?_
       exact HY.out _ _ HS.out.drew.set)
    | (obtain ⟨z0, z1, z2⟩ := HS.out.set.drew.drew.cells
       refine bodyPost_ret (v := .tuple #[.agg #[.int .i64 3, .int .i64 0, .string ⟨#[]⟩], .bool false]) (by simp [results, Try.results52, go_sem, z0, z1, z2]) rfl ?_
       exact HY.out _ _ HS.out.set.drew.drew)
    | (obtain ⟨z0, z1, z2⟩ := HS.out.drew.drew.set.cells
       refine bodyPost_ret (v := .tuple #[.agg #[.int .i64 3, .int .i64 0, .string ⟨#[]⟩], .bool false]) (by simp [results, Try.results52, go_sem, z0, z1, z2]) rfl ?_
       exact HY.out _ _ HS.out.drew.drew.set)
    | fail
end Go.Proofs.Ythdhifnafgidaaa
