/- Package row: takeValue, by kind. -/
import Derived.Test.YthdhifnafgidaaaWP
namespace Go.Proofs.Ythdhifnafgidaaa
open Go.RowKit

set_option maxRecDepth 100000 in
set_option maxHeartbeats 8000000 in
theorem tv_4y (s r : List UInt8) (g B : Nat) (w : World) (h : Src w g B (4 :: (vL (zig (s.length : Int)) ++ (s ++ r)))) (hs : s.length ≤ 200) : Calls Try.prog 52 #[.func (.func 63) #[] #[.pointer (some ⟨g, 0, none⟩)]] w (TVT w g B (4 :: (vL (zig (s.length : Int)) ++ (s ++ r)))) := by
  have HS := Lib.hid (GS.new h 0 0 ⟨#[]⟩)
  clear h
  obtain ⟨sb, HSB⟩ : ∃ sb : ByteArray, Hid (sb = ⟨s.toArray⟩) := ⟨_, Lib.hid rfl⟩
  have HRN : Hid (Val.R ⟨4, 0, sb⟩ ∧ 4 :: (vL (zig (s.length : Int)) ++ (s ++ r)) = rowV ⟨4, 0, sb⟩ ++ r) := Lib.hid (by rw [HSB.out]; exact row_text (c := 4) (by decide) hs r)
  have HSZ : Hid (sb.size ≤ 9223372036854775807) := Lib.hid (by
    have h4 : sb.size = s.length := by rw [HSB.out]; show s.toArray.size = s.length; simp
    omega)
  have HSL := Lib.hid hs
  clear hs
  have HY : Hid (∀ W, GS w g B W ⟨4, 0, sb⟩ (r) → TVT w g B (4 :: (vL (zig (s.length : Int)) ++ (s ++ r))) (.returned (.tuple #[.agg #[.int .i64 4, .int .i64 0, .string sb], .bool true])) W) := Lib.hid fun W hW => ⟨hW.gr, ⟨4, 0, sb⟩, true, r, rfl, hW.src, .inl ⟨rfl, HRN.out⟩⟩
  have RA : Hid (∀ w, Calls Try.prog 48 #[.agg #[.int .i64 4, .int .i64 0, .string sb]] w (Ans (.bool true) w)) := Lib.hid fun w => by
    have h := right_at' ⟨4, 0, sb⟩ (by exact HSZ.out) w
    rw [show rightB ⟨4, 0, sb⟩ = true from HRN.out.1.1] at h
    exact h
  go_enter Try.func52, Try.ntmps52
  go_wp2_with fail
  refine (nextX_at _ g B 4 (vL (zig (s.length : Int)) ++ (s ++ r)) 4 (by first | rfl | decide | exact HXC.out) HS.out.src).mono ?_
  rintro e w1 ⟨rfl, hs1, hg1⟩
  have HV := Lib.hid (HS.out.next hs1 hg1)
  obtain ⟨f0, f1, f2⟩ := HV.out.froz
  obtain ⟨y0, y1, y2⟩ := HV.out.cells
  have HS := Lib.hid (HV.out.set0 4)
  clear hs1 hg1
  go_wp2_with fail
  refine (takeText_yes s r g B _ HSL.out sb HSB.out HS.out.src).mono ?_
  rintro e w3 ⟨rfl, hs3, hg3⟩
  have HV := Lib.hid (HS.out.next hs3 hg3)
  obtain ⟨f0, f1, f2⟩ := HV.out.froz
  obtain ⟨y0, y1, y2⟩ := HV.out.cells
  have HS := Lib.hid (HV.out.set2 sb)
  clear hs3 hg3
  go_wp2_with fail
  go_region_held3 (fun W => W.cell? ⟨w.heap.size, 0, none⟩ = some (.int .i64 4) ∧ W.cell? ⟨w.heap.size, 1, none⟩ = some (.int .i64 0) ∧ W.cell? ⟨w.heap.size, 2, none⟩ = some (.string sb))
    (first | exact HS.out.cells | exact HS.out.drew.cells | exact HS.out.drew.drew.cells | exact HS.out.set.cells | exact HS.out.drew.set.cells | exact HS.out.drew.drew.set.cells | go_keep)
    ((go_at_call 48
      refine (RA.out _).mono ?_
      rintro e w2 ⟨rfl, hb2⟩
      have HS := Lib.hid (GS.keep (by first | exact HS.out | exact HS.out.drew | exact HS.out.drew.drew | exact HS.out.drew.drew.drew) hb2)
      obtain ⟨f0, f1, f2⟩ := HS.out.froz
      clear hb2))
  all_goals go_wp2_with fail
  all_goals first
    | (obtain ⟨z0, z1, z2⟩ := HS.out.set.cells
       refine bodyPost_ret (v := .tuple #[.agg #[.int .i64 4, .int .i64 0, .string sb], .bool true]) (by simp [results, Try.results52, go_sem, z0, z1, z2]) rfl ?_
       exact HY.out _ HS.out.set)
    | (obtain ⟨z0, z1, z2⟩ := HS.out.set.drew.cells
       refine bodyPost_ret (v := .tuple #[.agg #[.int .i64 4, .int .i64 0, .string sb], .bool true]) (by simp [results, Try.results52, go_sem, z0, z1, z2]) rfl ?_
       exact HY.out _ HS.out.set.drew)
    | (obtain ⟨z0, z1, z2⟩ := HS.out.drew.set.cells
       refine bodyPost_ret (v := .tuple #[.agg #[.int .i64 4, .int .i64 0, .string sb], .bool true]) (by simp [results, Try.results52, go_sem, z0, z1, z2]) rfl ?_
       exact HY.out _ HS.out.drew.set)
    | (obtain ⟨z0, z1, z2⟩ := HS.out.set.drew.drew.cells
       refine bodyPost_ret (v := .tuple #[.agg #[.int .i64 4, .int .i64 0, .string sb], .bool true]) (by simp [results, Try.results52, go_sem, z0, z1, z2]) rfl ?_
       exact HY.out _ HS.out.set.drew.drew)
    | (obtain ⟨z0, z1, z2⟩ := HS.out.drew.drew.set.cells
       refine bodyPost_ret (v := .tuple #[.agg #[.int .i64 4, .int .i64 0, .string sb], .bool true]) (by simp [results, Try.results52, go_sem, z0, z1, z2]) rfl ?_
       exact HY.out _ HS.out.drew.drew.set)
    | fail
set_option maxRecDepth 100000 in
set_option maxHeartbeats 8000000 in
theorem tv_4n (t : List UInt8) (g B : Nat) (w : World) (h : Src w g B (4 :: t)) (hno : ∀ s r : List UInt8, s.length ≤ 200 → t ≠ vL (zig (s.length : Int)) ++ (s ++ r)) : Calls Try.prog 52 #[.func (.func 63) #[] #[.pointer (some ⟨g, 0, none⟩)]] w (TVT w g B (4 :: t)) := by
  have HS := Lib.hid (GS.new h 0 0 ⟨#[]⟩)
  clear h
  have HNO := Lib.hid hno
  clear hno
  have HY : Hid (∀ W r, GS w g B W ⟨4, 0, ⟨#[]⟩⟩ r → TVT w g B (4 :: t) (.returned (.tuple #[.agg #[.int .i64 4, .int .i64 0, .string ⟨#[]⟩], .bool false])) W) := Lib.hid fun W r hW => ⟨hW.gr, ⟨4, 0, ⟨#[]⟩⟩, false, r, rfl, hW.src, .inr ⟨rfl, row_textn (c := 4) (by decide) HNO.out⟩⟩
  go_enter Try.func52, Try.ntmps52
  go_wp2_with fail
  refine (nextX_at _ g B 4 t 4 (by first | rfl | decide | exact HXC.out) HS.out.src).mono ?_
  rintro e w1 ⟨rfl, hs1, hg1⟩
  have HV := Lib.hid (HS.out.next hs1 hg1)
  obtain ⟨f0, f1, f2⟩ := HV.out.froz
  obtain ⟨y0, y1, y2⟩ := HV.out.cells
  have HS := Lib.hid (HV.out.set0 4)
  clear hs1 hg1
  go_wp2_with fail
  refine (takeText_no t g B _ HNO.out HS.out.src).mono ?_
  rintro e w3 ⟨rfl, r3, hs3, hg3⟩
  have HV := Lib.hid (HS.out.next hs3 hg3)
  obtain ⟨f0, f1, f2⟩ := HV.out.froz
  obtain ⟨y0, y1, y2⟩ := HV.out.cells
  have HS := Lib.hid (HV.out.set2 ⟨#[]⟩)
  clear hs3 hg3
  go_wp2_with fail
  first | (go_region_law (fail)) | fail
  all_goals go_wp2_with fail
  all_goals first
    | (obtain ⟨z0, z1, z2⟩ := HS.out.set.cells
       refine bodyPost_ret (v := .tuple #[.agg #[.int .i64 4, .int .i64 0, .string ⟨#[]⟩], .bool false]) (by simp [results, Try.results52, go_sem, z0, z1, z2]) rfl ?_
       exact HY.out _ _ HS.out.set)
    | (obtain ⟨z0, z1, z2⟩ := HS.out.set.drew.cells
       refine bodyPost_ret (v := .tuple #[.agg #[.int .i64 4, .int .i64 0, .string ⟨#[]⟩], .bool false]) (by simp [results, Try.results52, go_sem, z0, z1, z2]) rfl ?_
       exact HY.out _ _ HS.out.set.drew)
    | (obtain ⟨z0, z1, z2⟩ := HS.out.drew.set.cells
       refine bodyPost_ret (v := .tuple #[.agg #[.int .i64 4, .int .i64 0, .string ⟨#[]⟩], .bool false]) (by simp [results, Try.results52, go_sem, z0, z1, z2]) rfl ?_
       exact HY.out _ _ HS.out.drew.set)
    | (obtain ⟨z0, z1, z2⟩ := HS.out.set.drew.drew.cells
       refine bodyPost_ret (v := .tuple #[.agg #[.int .i64 4, .int .i64 0, .string ⟨#[]⟩], .bool false]) (by simp [results, Try.results52, go_sem, z0, z1, z2]) rfl ?_
       exact HY.out _ _ HS.out.set.drew.drew)
    | (obtain ⟨z0, z1, z2⟩ := HS.out.drew.drew.set.cells
       refine bodyPost_ret (v := .tuple #[.agg #[.int .i64 4, .int .i64 0, .string ⟨#[]⟩], .bool false]) (by simp [results, Try.results52, go_sem, z0, z1, z2]) rfl ?_
       exact HY.out _ _ HS.out.drew.drew.set)
    | fail
set_option maxRecDepth 100000 in
set_option maxHeartbeats 8000000 in
theorem tv_5y (s r : List UInt8) (g B : Nat) (w : World) (h : Src w g B (5 :: (vL (zig (s.length : Int)) ++ (s ++ r)))) (hs : s.length ≤ 200) : Calls Try.prog 52 #[.func (.func 63) #[] #[.pointer (some ⟨g, 0, none⟩)]] w (TVT w g B (5 :: (vL (zig (s.length : Int)) ++ (s ++ r)))) := by
  have HS := Lib.hid (GS.new h 0 0 ⟨#[]⟩)
  clear h
  obtain ⟨sb, HSB⟩ : ∃ sb : ByteArray, Hid (sb = ⟨s.toArray⟩) := ⟨_, Lib.hid rfl⟩
  have HRN : Hid (Val.R ⟨5, 0, sb⟩ ∧ 5 :: (vL (zig (s.length : Int)) ++ (s ++ r)) = rowV ⟨5, 0, sb⟩ ++ r) := Lib.hid (by rw [HSB.out]; exact row_text (c := 5) (by decide) hs r)
  have HSZ : Hid (sb.size ≤ 9223372036854775807) := Lib.hid (by
    have h4 : sb.size = s.length := by rw [HSB.out]; show s.toArray.size = s.length; simp
    omega)
  have HSL := Lib.hid hs
  clear hs
  have HY : Hid (∀ W, GS w g B W ⟨5, 0, sb⟩ (r) → TVT w g B (5 :: (vL (zig (s.length : Int)) ++ (s ++ r))) (.returned (.tuple #[.agg #[.int .i64 5, .int .i64 0, .string sb], .bool true])) W) := Lib.hid fun W hW => ⟨hW.gr, ⟨5, 0, sb⟩, true, r, rfl, hW.src, .inl ⟨rfl, HRN.out⟩⟩
  have RA : Hid (∀ w, Calls Try.prog 48 #[.agg #[.int .i64 5, .int .i64 0, .string sb]] w (Ans (.bool true) w)) := Lib.hid fun w => by
    have h := right_at' ⟨5, 0, sb⟩ (by exact HSZ.out) w
    rw [show rightB ⟨5, 0, sb⟩ = true from HRN.out.1.1] at h
    exact h
  go_enter Try.func52, Try.ntmps52
  go_wp2_with fail
  refine (nextX_at _ g B 5 (vL (zig (s.length : Int)) ++ (s ++ r)) 5 (by first | rfl | decide | exact HXC.out) HS.out.src).mono ?_
  rintro e w1 ⟨rfl, hs1, hg1⟩
  have HV := Lib.hid (HS.out.next hs1 hg1)
  obtain ⟨f0, f1, f2⟩ := HV.out.froz
  obtain ⟨y0, y1, y2⟩ := HV.out.cells
  have HS := Lib.hid (HV.out.set0 5)
  clear hs1 hg1
  go_wp2_with fail
  refine (takeText_yes s r g B _ HSL.out sb HSB.out HS.out.src).mono ?_
  rintro e w3 ⟨rfl, hs3, hg3⟩
  have HV := Lib.hid (HS.out.next hs3 hg3)
  obtain ⟨f0, f1, f2⟩ := HV.out.froz
  obtain ⟨y0, y1, y2⟩ := HV.out.cells
  have HS := Lib.hid (HV.out.set2 sb)
  clear hs3 hg3
  go_wp2_with fail
  go_region_held3 (fun W => W.cell? ⟨w.heap.size, 0, none⟩ = some (.int .i64 5) ∧ W.cell? ⟨w.heap.size, 1, none⟩ = some (.int .i64 0) ∧ W.cell? ⟨w.heap.size, 2, none⟩ = some (.string sb))
    (first | exact HS.out.cells | exact HS.out.drew.cells | exact HS.out.drew.drew.cells | exact HS.out.set.cells | exact HS.out.drew.set.cells | exact HS.out.drew.drew.set.cells | go_keep)
    ((go_at_call 48
      refine (RA.out _).mono ?_
      rintro e w2 ⟨rfl, hb2⟩
      have HS := Lib.hid (GS.keep (by first | exact HS.out | exact HS.out.drew | exact HS.out.drew.drew | exact HS.out.drew.drew.drew) hb2)
      obtain ⟨f0, f1, f2⟩ := HS.out.froz
      clear hb2))
  all_goals go_wp2_with fail
  all_goals first
    | (obtain ⟨z0, z1, z2⟩ := HS.out.set.cells
       refine bodyPost_ret (v := .tuple #[.agg #[.int .i64 5, .int .i64 0, .string sb], .bool true]) (by simp [results, Try.results52, go_sem, z0, z1, z2]) rfl ?_
       exact HY.out _ HS.out.set)
    | (obtain ⟨z0, z1, z2⟩ := HS.out.set.drew.cells
       refine bodyPost_ret (v := .tuple #[.agg #[.int .i64 5, .int .i64 0, .string sb], .bool true]) (by simp [results, Try.results52, go_sem, z0, z1, z2]) rfl ?_
       exact HY.out _ HS.out.set.drew)
    | (obtain ⟨z0, z1, z2⟩ := HS.out.drew.set.cells
       refine bodyPost_ret (v := .tuple #[.agg #[.int .i64 5, .int .i64 0, .string sb], .bool true]) (by simp [results, Try.results52, go_sem, z0, z1, z2]) rfl ?_
       exact HY.out _ HS.out.drew.set)
    | (obtain ⟨z0, z1, z2⟩ := HS.out.set.drew.drew.cells
       refine bodyPost_ret (v := .tuple #[.agg #[.int .i64 5, .int .i64 0, .string sb], .bool true]) (by simp [results, Try.results52, go_sem, z0, z1, z2]) rfl ?_
       exact HY.out _ HS.out.set.drew.drew)
    | (obtain ⟨z0, z1, z2⟩ := HS.out.drew.drew.set.cells
       refine bodyPost_ret (v := .tuple #[.agg #[.int .i64 5, .int .i64 0, .string sb], .bool true]) (by simp [results, Try.results52, go_sem, z0, z1, z2]) rfl ?_
       exact HY.out _ HS.out.drew.drew.set)
    | fail
set_option maxRecDepth 100000 in
set_option maxHeartbeats 8000000 in
theorem tv_5n (t : List UInt8) (g B : Nat) (w : World) (h : Src w g B (5 :: t)) (hno : ∀ s r : List UInt8, s.length ≤ 200 → t ≠ vL (zig (s.length : Int)) ++ (s ++ r)) : Calls Try.prog 52 #[.func (.func 63) #[] #[.pointer (some ⟨g, 0, none⟩)]] w (TVT w g B (5 :: t)) := by
  have HS := Lib.hid (GS.new h 0 0 ⟨#[]⟩)
  clear h
  have HNO := Lib.hid hno
  clear hno
  have HY : Hid (∀ W r, GS w g B W ⟨5, 0, ⟨#[]⟩⟩ r → TVT w g B (5 :: t) (.returned (.tuple #[.agg #[.int .i64 5, .int .i64 0, .string ⟨#[]⟩], .bool false])) W) := Lib.hid fun W r hW => ⟨hW.gr, ⟨5, 0, ⟨#[]⟩⟩, false, r, rfl, hW.src, .inr ⟨rfl, row_textn (c := 5) (by decide) HNO.out⟩⟩
  go_enter Try.func52, Try.ntmps52
  go_wp2_with fail
  refine (nextX_at _ g B 5 t 5 (by first | rfl | decide | exact HXC.out) HS.out.src).mono ?_
  rintro e w1 ⟨rfl, hs1, hg1⟩
  have HV := Lib.hid (HS.out.next hs1 hg1)
  obtain ⟨f0, f1, f2⟩ := HV.out.froz
  obtain ⟨y0, y1, y2⟩ := HV.out.cells
  have HS := Lib.hid (HV.out.set0 5)
  clear hs1 hg1
  go_wp2_with fail
  refine (takeText_no t g B _ HNO.out HS.out.src).mono ?_
  rintro e w3 ⟨rfl, r3, hs3, hg3⟩
  have HV := Lib.hid (HS.out.next hs3 hg3)
  obtain ⟨f0, f1, f2⟩ := HV.out.froz
  obtain ⟨y0, y1, y2⟩ := HV.out.cells
  have HS := Lib.hid (HV.out.set2 ⟨#[]⟩)
  clear hs3 hg3
  go_wp2_with fail
  first | (go_region_law (fail)) | fail
  all_goals go_wp2_with fail
  all_goals first
    | (obtain ⟨z0, z1, z2⟩ := HS.out.set.cells
       refine bodyPost_ret (v := .tuple #[.agg #[.int .i64 5, .int .i64 0, .string ⟨#[]⟩], .bool false]) (by simp [results, Try.results52, go_sem, z0, z1, z2]) rfl ?_
       exact HY.out _ _ HS.out.set)
    | (obtain ⟨z0, z1, z2⟩ := HS.out.set.drew.cells
       refine bodyPost_ret (v := .tuple #[.agg #[.int .i64 5, .int .i64 0, .string ⟨#[]⟩], .bool false]) (by simp [results, Try.results52, go_sem, z0, z1, z2]) rfl ?_
       exact HY.out _ _ HS.out.set.drew)
    | (obtain ⟨z0, z1, z2⟩ := HS.out.drew.set.cells
       refine bodyPost_ret (v := .tuple #[.agg #[.int .i64 5, .int .i64 0, .string ⟨#[]⟩], .bool false]) (by simp [results, Try.results52, go_sem, z0, z1, z2]) rfl ?_
       exact HY.out _ _ HS.out.drew.set)
    | (obtain ⟨z0, z1, z2⟩ := HS.out.set.drew.drew.cells
       refine bodyPost_ret (v := .tuple #[.agg #[.int .i64 5, .int .i64 0, .string ⟨#[]⟩], .bool false]) (by simp [results, Try.results52, go_sem, z0, z1, z2]) rfl ?_
       exact HY.out _ _ HS.out.set.drew.drew)
    | (obtain ⟨z0, z1, z2⟩ := HS.out.drew.drew.set.cells
       refine bodyPost_ret (v := .tuple #[.agg #[.int .i64 5, .int .i64 0, .string ⟨#[]⟩], .bool false]) (by simp [results, Try.results52, go_sem, z0, z1, z2]) rfl ?_
       exact HY.out _ _ HS.out.drew.drew.set)
    | fail
end Go.Proofs.Ythdhifnafgidaaa
