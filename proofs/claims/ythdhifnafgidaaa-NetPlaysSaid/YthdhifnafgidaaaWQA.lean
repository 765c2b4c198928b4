/- Package row: takeValue, by kind. -/
import Derived.Test.YthdhifnafgidaaaWP
namespace Go.Proofs.Ythdhifnafgidaaa
open Go.RowKit

set_option maxRecDepth 100000 in
set_option maxHeartbeats 8000000 in
theorem tv_nil (g B : Nat) (w : World) (h : Src w g B ([])) : Calls Try.prog 52 #[.func (.func 63) #[] #[.pointer (some ⟨g, 0, none⟩)]] w (TVT w g B ([])) := by
  have HS := Lib.hid (GS.new h 0 0 ⟨#[]⟩)
  clear h
  have HY : Hid (∀ W, GS w g B W ⟨0, 0, ⟨#[]⟩⟩ ([]) → TVT w g B ([]) (.returned (.tuple #[.agg #[.int .i64 0, .int .i64 0, .string ⟨#[]⟩], .bool false])) W) := Lib.hid fun W hW => ⟨hW.gr, ⟨0, 0, ⟨#[]⟩⟩, false, [], rfl, hW.src, .inr ⟨rfl, fun y r _ => rowR_none y r⟩⟩
  go_enter Try.func52, Try.ntmps52
  go_wp2_with fail
  refine (next_none' _ g B HS.out.src).mono ?_
  rintro e w1 ⟨rfl, rfl⟩
  obtain ⟨f0, f1, f2⟩ := HS.out.froz
  obtain ⟨y0, y1, y2⟩ := HS.out.cells
  go_wp2_with fail
  all_goals first
    | (refine bodyPost_ret (v := .tuple #[.agg #[.int .i64 0, .int .i64 0, .string ⟨#[]⟩], .bool false]) (by simp [results, Try.results52, go_sem]) rfl ?_
       exact HY.out _ HS.out.set)
    | (obtain ⟨z0, z1, z2⟩ := HS.out.cells
       refine bodyPost_ret (v := .tuple #[.agg #[.int .i64 0, .int .i64 0, .string ⟨#[]⟩], .bool false]) (by simp [results, Try.results52, go_sem, z0, z1, z2]) rfl ?_
       exact HY.out _ HS.out)
    | fail
set_option maxRecDepth 100000 in
set_option maxHeartbeats 8000000 in
theorem tv_0 (t : List UInt8) (g B : Nat) (w : World) (h : Src w g B (0 :: t)) : Calls Try.prog 52 #[.func (.func 63) #[] #[.pointer (some ⟨g, 0, none⟩)]] w (TVT w g B (0 :: t)) := by
  have HS := Lib.hid (GS.new h 0 0 ⟨#[]⟩)
  clear h
  have HY : Hid (∀ W, GS w g B W ⟨0, 0, ⟨#[]⟩⟩ (t) → TVT w g B (0 :: t) (.returned (.tuple #[.agg #[.int .i64 0, .int .i64 0, .string ⟨#[]⟩], .bool true])) W) := Lib.hid fun W hW => ⟨hW.gr, ⟨0, 0, ⟨#[]⟩⟩, true, t, rfl, hW.src, .inl ⟨rfl, row_0 t⟩⟩
  have RA : Hid (∀ w, Calls Try.prog 48 #[.agg #[.int .i64 0, .int .i64 0, .string ⟨#[]⟩]] w (Ans (.bool true) w)) := Lib.hid fun w => by
    have h := right_at' ⟨0, 0, ⟨#[]⟩⟩ (by exact Nat.zero_le _) w
    rw [show rightB ⟨0, 0, ⟨#[]⟩⟩ = true from (row_0 []).1.1] at h
    exact h
  go_enter Try.func52, Try.ntmps52
  go_wp2_with fail
  refine (nextX_at _ g B 0 t 0 (by first | rfl | decide | exact HXC.out) HS.out.src).mono ?_
  rintro e w1 ⟨rfl, hs1, hg1⟩
  have HV := Lib.hid (HS.out.next hs1 hg1)
  obtain ⟨f0, f1, f2⟩ := HV.out.froz
  obtain ⟨y0, y1, y2⟩ := HV.out.cells
  have HS := Lib.hid (HV.out.set0 0)
  clear hs1 hg1
  go_wp2_with fail
  go_region_held3 (fun W => W.cell? ⟨w.heap.size, 0, none⟩ = some (.int .i64 0) ∧ W.cell? ⟨w.heap.size, 1, none⟩ = some (.int .i64 0) ∧ W.cell? ⟨w.heap.size, 2, none⟩ = some (.string ⟨#[]⟩))
    (first | exact HS.out.cells | exact HS.out.drew.cells | exact HS.out.drew.drew.cells | exact HS.out.set.cells | exact HS.out.drew.set.cells | exact HS.out.drew.drew.set.cells | go_keep)
    ((go_at_call 48
      refine (RA.out _).mono ?_
      rintro e w2 ⟨rfl, hb2⟩
      have HS := Lib.hid (GS.keep (by first | exact HS.out | exact HS.out.drew | exact HS.out.drew.drew | exact HS.out.drew.drew.drew) hb2)
      obtain ⟨f0, f1, f2⟩ := HS.out.froz
      clear hb2))
  all_goals go_wp2_with fail
  all_goals first
    | (obtain ⟨z0, z1, z2⟩ := HS.out.set.cells
       refine bodyPost_ret (v := .tuple #[.agg #[.int .i64 0, .int .i64 0, .string ⟨#[]⟩], .bool true]) (by simp [results, Try.results52, go_sem, z0, z1, z2]) rfl ?_
       exact HY.out _ HS.out.set)
    | (obtain ⟨z0, z1, z2⟩ := HS.out.set.drew.cells
       refine bodyPost_ret (v := .tuple #[.agg #[.int .i64 0, .int .i64 0, .string ⟨#[]⟩], .bool true]) (by simp [results, Try.results52, go_sem, z0, z1, z2]) rfl ?_
       exact HY.out _ HS.out.set.drew)
    | (obtain ⟨z0, z1, z2⟩ := HS.out.drew.set.cells
       refine bodyPost_ret (v := .tuple #[.agg #[.int .i64 0, .int .i64 0, .string ⟨#[]⟩], .bool true]) (by simp [results, Try.results52, go_sem, z0, z1, z2]) rfl ?_
       exact HY.out _ HS.out.drew.set)
    | (obtain ⟨z0, z1, z2⟩ := HS.out.set.drew.drew.cells
       refine bodyPost_ret (v := .tuple #[.agg #[.int .i64 0, .int .i64 0, .string ⟨#[]⟩], .bool true]) (by simp [results, Try.results52, go_sem, z0, z1, z2]) rfl ?_
       exact HY.out _ HS.out.set.drew.drew)
    | (obtain ⟨z0, z1, z2⟩ := HS.out.drew.drew.set.cells
       refine bodyPost_ret (v := .tuple #[.agg #[.int .i64 0, .int .i64 0, .string ⟨#[]⟩], .bool true]) (by simp [results, Try.results52, go_sem, z0, z1, z2]) rfl ?_
       exact HY.out _ HS.out.drew.drew.set)
    | fail
set_option maxRecDepth 100000 in
set_option maxHeartbeats 8000000 in
theorem tv_x (c : UInt8) (t : List UInt8) (g B : Nat) (w : World) (h : Src w g B (c :: t)) (hc5 : 5 < c.toNat) : Calls Try.prog 52 #[.func (.func 63) #[] #[.pointer (some ⟨g, 0, none⟩)]] w (TVT w g B (c :: t)) := by
  have HS := Lib.hid (GS.new h 0 0 ⟨#[]⟩)
  clear h
  obtain ⟨x, HXC⟩ : ∃ x : Int, Hid (x = (c.toNat : Int)) := ⟨_, Lib.hid rfl⟩
  have hx5 : 5 < x := by rw [HXC.out]; omega
  have hx9 : x < 256 := by have := c.toNat_lt; rw [HXC.out]; omega
  have hw : wrap64 x = x := by unfold wrap64; omega
  have e1 : (x == 1) = false := beq_false_of_ne (by omega)
  have e2 : (x == 2) = false := beq_false_of_ne (by omega)
  have e3 : (x == 3) = false := beq_false_of_ne (by omega)
  have e4 : (x == 4) = false := beq_false_of_ne (by omega)
  have e5 : (x == 5) = false := beq_false_of_ne (by omega)
  have HX5 := Lib.hid hx5
  clear hx5 hx9
  have HY : Hid (∀ W, GS w g B W ⟨x, 0, ⟨#[]⟩⟩ (t) → TVT w g B (c :: t) (.returned (.tuple #[.agg #[.int .i64 x, .int .i64 0, .string ⟨#[]⟩], .bool false])) W) := Lib.hid fun W hW => ⟨hW.gr, ⟨x, 0, ⟨#[]⟩⟩, false, t, rfl, hW.src, .inr ⟨rfl, rowR_kind hc5⟩⟩
  have RA : Hid (∀ w, Calls Try.prog 48 #[.agg #[.int .i64 x, .int .i64 0, .string ⟨#[]⟩]] w (Ans (.bool false) w)) := Lib.hid fun w => by
    have h := right_at' ⟨x, 0, ⟨#[]⟩⟩ (by exact Nat.zero_le _) w
    rw [show rightB ⟨x, 0, ⟨#[]⟩⟩ = false from right_no_kindR HX5.out] at h
    exact h
  go_enter Try.func52, Try.ntmps52
  go_wp2_with fail
  refine (nextX_at _ g B c t x (by first | rfl | decide | exact HXC.out) HS.out.src).mono ?_
  rintro e w1 ⟨rfl, hs1, hg1⟩
  have HV := Lib.hid (HS.out.next hs1 hg1)
  obtain ⟨f0, f1, f2⟩ := HV.out.froz
  obtain ⟨y0, y1, y2⟩ := HV.out.cells
  have HS := Lib.hid (HV.out.set0 x)
  clear hs1 hg1
  go_wp2_with fail
  go_region_held3 (fun W => W.cell? ⟨w.heap.size, 0, none⟩ = some (.int .i64 x) ∧ W.cell? ⟨w.heap.size, 1, none⟩ = some (.int .i64 0) ∧ W.cell? ⟨w.heap.size, 2, none⟩ = some (.string ⟨#[]⟩))
    (first | exact HS.out.cells | exact HS.out.drew.cells | exact HS.out.drew.drew.cells | exact HS.out.set.cells | exact HS.out.drew.set.cells | exact HS.out.drew.drew.set.cells | go_keep)
    ((go_at_call 48
      refine (RA.out _).mono ?_
      rintro e w2 ⟨rfl, hb2⟩
      have HS := Lib.hid (GS.keep (by first | exact HS.out | exact HS.out.drew | exact HS.out.drew.drew | exact HS.out.drew.drew.drew) hb2)
      obtain ⟨f0, f1, f2⟩ := HS.out.froz
      clear hb2))
  all_goals go_wp2_with fail
  all_goals first
    | (obtain ⟨z0, z1, z2⟩ := HS.out.set.cells
       refine bodyPost_ret (v := .tuple #[.agg #[.int .i64 x, .int .i64 0, .string ⟨#[]⟩], .bool false]) (by simp [results, Try.results52, go_sem, z0, z1, z2]) rfl ?_
       exact HY.out _ HS.out.set)
    | (obtain ⟨z0, z1, z2⟩ := HS.out.set.drew.cells
       refine bodyPost_ret (v := .tuple #[.agg #[.int .i64 x, .int .i64 0, .string ⟨#[]⟩], .bool false]) (by simp [results, Try.results52, go_sem, z0, z1, z2]) rfl ?_
       exact HY.out _ HS.out.set.drew)
    | (obtain ⟨z0, z1, z2⟩ := HS.out.drew.set.cells
       refine bodyPost_ret (v := .tuple #[.agg #[.int .i64 x, .int .i64 0, .string ⟨#[]⟩], .bool false]) (by simp [results, Try.results52, go_sem, z0, z1, z2]) rfl ?_
       exact HY.out _ HS.out.drew.set)
    | (obtain ⟨z0, z1, z2⟩ := HS.out.set.drew.drew.cells
       refine bodyPost_ret (v := .tuple #[.agg #[.int .i64 x, .int .i64 0, .string ⟨#[]⟩], .bool false]) (by simp [results, Try.results52, go_sem, z0, z1, z2]) rfl ?_
       exact HY.out _ HS.out.set.drew.drew)
    | (obtain ⟨z0, z1, z2⟩ := HS.out.drew.drew.set.cells
       refine bodyPost_ret (v := .tuple #[.agg #[.int .i64 x, .int .i64 0, .string ⟨#[]⟩], .bool false]) (by simp [results, Try.results52, go_sem, z0, z1, z2]) rfl ?_
       exact HY.out _ HS.out.drew.drew.set)
    | fail
set_option maxRecDepth 100000 in
set_option maxHeartbeats 8000000 in
theorem tv_1n (g B : Nat) (w : World) (h : Src w g B ([1])) : Calls Try.prog 52 #[.func (.func 63) #[] #[.pointer (some ⟨g, 0, none⟩)]] w (TVT w g B ([1])) := by
  have HS := Lib.hid (GS.new h 0 0 ⟨#[]⟩)
  clear h
  have HY : Hid (∀ W, GS w g B W ⟨1, 0, ⟨#[]⟩⟩ ([]) → TVT w g B ([1]) (.returned (.tuple #[.agg #[.int .i64 1, .int .i64 0, .string ⟨#[]⟩], .bool false])) W) := Lib.hid fun W hW => ⟨hW.gr, ⟨1, 0, ⟨#[]⟩⟩, false, [], rfl, hW.src, .inr ⟨rfl, row_1n⟩⟩
  go_enter Try.func52, Try.ntmps52
  go_wp2_with fail
  refine (nextX_at _ g B 1 [] 1 (by first | rfl | decide | exact HXC.out) HS.out.src).mono ?_
  rintro e w1 ⟨rfl, hs1, hg1⟩
  have HV := Lib.hid (HS.out.next hs1 hg1)
  obtain ⟨f0, f1, f2⟩ := HV.out.froz
  obtain ⟨y0, y1, y2⟩ := HV.out.cells
  have HS := Lib.hid (HV.out.set0 1)
  clear hs1 hg1
  go_wp2_with fail
  refine (next_none' _ g B HS.out.src).mono ?_
  rintro e w2 ⟨rfl, rfl⟩
  obtain ⟨f0, f1, f2⟩ := HS.out.froz
  obtain ⟨y0, y1, y2⟩ := HS.out.cells
  have HS := Lib.hid (HS.out.set1 0)
  go_wp2_with fail
  first | (go_region_law (fail)) | fail
  all_goals go_wp2_with fail
  all_goals first
    | (obtain ⟨z0, z1, z2⟩ := HS.out.set.cells
       refine bodyPost_ret (v := .tuple #[.agg #[.int .i64 1, .int .i64 0, .string ⟨#[]⟩], .bool false]) (by simp [results, Try.results52, go_sem, z0, z1, z2]) rfl ?_
       exact HY.out _ HS.out.set)
    | (obtain ⟨z0, z1, z2⟩ := HS.out.set.drew.cells
       refine bodyPost_ret (v := .tuple #[.agg #[.int .i64 1, .int .i64 0, .string ⟨#[]⟩], .bool false]) (by simp [results, Try.results52, go_sem, z0, z1, z2]) rfl ?_
       exact HY.out _ HS.out.set.drew)
    | (obtain ⟨z0, z1, z2⟩ := HS.out.drew.set.cells
       refine bodyPost_ret (v := .tuple #[.agg #[.int .i64 1, .int .i64 0, .string ⟨#[]⟩], .bool false]) (by simp [results, Try.results52, go_sem, z0, z1, z2]) rfl ?_
       exact HY.out _ HS.out.drew.set)
    | (obtain ⟨z0, z1, z2⟩ := HS.out.set.drew.drew.cells
       refine bodyPost_ret (v := .tuple #[.agg #[.int .i64 1, .int .i64 0, .string ⟨#[]⟩], .bool false]) (by simp [results, Try.results52, go_sem, z0, z1, z2]) rfl ?_
       exact HY.out _ HS.out.set.drew.drew)
    | (obtain ⟨z0, z1, z2⟩ := HS.out.drew.drew.set.cells
       refine bodyPost_ret (v := .tuple #[.agg #[.int .i64 1, .int .i64 0, .string ⟨#[]⟩], .bool false]) (by simp [results, Try.results52, go_sem, z0, z1, z2]) rfl ?_
       exact HY.out _ HS.out.drew.drew.set)
    | fail
set_option maxRecDepth 100000 in
set_option maxHeartbeats 8000000 in
theorem tv_1y (d : UInt8) (t : List UInt8) (g B : Nat) (w : World) (h : Src w g B (1 :: d :: t)) (hd : d.toNat ≤ 1) : Calls Try.prog 52 #[.func (.func 63) #[] #[.pointer (some ⟨g, 0, none⟩)]] w (TVT w g B (1 :: d :: t)) := by
  have HS := Lib.hid (GS.new h 0 0 ⟨#[]⟩)
  clear h
  obtain ⟨x, HXC⟩ : ∃ x : Int, Hid (x = (d.toNat : Int)) := ⟨_, Lib.hid rfl⟩
  have hN : wrap64 x = x := by have := d.toNat_lt; rw [HXC.out]; unfold wrap64; omega
  have HY : Hid (∀ W, GS w g B W ⟨1, x, ⟨#[]⟩⟩ (t) → TVT w g B (1 :: d :: t) (.returned (.tuple #[.agg #[.int .i64 1, .int .i64 x, .string ⟨#[]⟩], .bool true])) W) := Lib.hid fun W hW => ⟨hW.gr, ⟨1, x, ⟨#[]⟩⟩, true, t, rfl, hW.src, .inl ⟨rfl, by rw [HXC.out]; exact row_1y hd t⟩⟩
  have RA : Hid (∀ w, Calls Try.prog 48 #[.agg #[.int .i64 1, .int .i64 x, .string ⟨#[]⟩]] w (Ans (.bool true) w)) := Lib.hid fun w => by
    have h := right_at' ⟨1, x, ⟨#[]⟩⟩ (by exact Nat.zero_le _) w
    rw [show rightB ⟨1, x, ⟨#[]⟩⟩ = true from by rw [HXC.out]; exact (row_1y hd []).1.1] at h
    exact h
  go_enter Try.func52, Try.ntmps52
  go_wp2_with fail
  refine (nextX_at _ g B 1 (d :: t) 1 (by first | rfl | decide | exact HXC.out) HS.out.src).mono ?_
  rintro e w1 ⟨rfl, hs1, hg1⟩
  have HV := Lib.hid (HS.out.next hs1 hg1)
  obtain ⟨f0, f1, f2⟩ := HV.out.froz
  obtain ⟨y0, y1, y2⟩ := HV.out.cells
  have HS := Lib.hid (HV.out.set0 1)
  clear hs1 hg1
  go_wp2_with fail
  refine (nextX_at _ g B d t x HXC.out HS.out.src).mono ?_
  rintro e w3 ⟨rfl, hs3, hg3⟩
  have HV := Lib.hid (HS.out.next hs3 hg3)
  obtain ⟨f0, f1, f2⟩ := HV.out.froz
  obtain ⟨y0, y1, y2⟩ := HV.out.cells
  have HS := Lib.hid (HV.out.set1 x)
  clear hs3 hg3
  go_wp2_with fail
  go_region_held3 (fun W => W.cell? ⟨w.heap.size, 0, none⟩ = some (.int .i64 1) ∧ W.cell? ⟨w.heap.size, 1, none⟩ = some (.int .i64 x) ∧ W.cell? ⟨w.heap.size, 2, none⟩ = some (.string ⟨#[]⟩))
    (first | exact HS.out.cells | exact HS.out.drew.cells | exact HS.out.drew.drew.cells | exact HS.out.set.cells | exact HS.out.drew.set.cells | exact HS.out.drew.drew.set.cells | go_keep)
    ((go_at_call 48
      refine (RA.out _).mono ?_
      rintro e w2 ⟨rfl, hb2⟩
      have HS := Lib.hid (GS.keep (by first | exact HS.out | exact HS.out.drew | exact HS.out.drew.drew | exact HS.out.drew.drew.drew) hb2)
      obtain ⟨f0, f1, f2⟩ := HS.out.froz
      clear hb2))
  all_goals go_wp2_with fail
  all_goals first
    | (obtain ⟨z0, z1, z2⟩ := HS.out.set.cells
       refine bodyPost_ret (v := .tuple #[.agg #[.int .i64 1, .int .i64 x, .string ⟨#[]⟩], .bool true]) (by simp [results, Try.results52, go_sem, z0, z1, z2]) rfl ?_
       exact HY.out _ HS.out.set)
    | (obtain ⟨z0, z1, z2⟩ := HS.out.set.drew.cells
       refine bodyPost_ret (v := .tuple #[.agg #[.int .i64 1, .int .i64 x, .string ⟨#[]⟩], .bool true]) (by simp [results, Try.results52, go_sem, z0, z1, z2]) rfl ?_
       exact HY.out _ HS.out.set.drew)
    | (obtain ⟨z0, z1, z2⟩ := HS.out.drew.set.cells
       refine bodyPost_ret (v := .tuple #[.agg #[.int .i64 1, .int .i64 x, .string ⟨#[]⟩], .bool true]) (by simp [results, Try.results52, go_sem, z0, z1, z2]) rfl ?_
       exact HY.out _ HS.out.drew.set)
    | (obtain ⟨z0, z1, z2⟩ := HS.out.set.drew.drew.cells
       refine bodyPost_ret (v := .tuple #[.agg #[.int .i64 1, .int .i64 x, .string ⟨#[]⟩], .bool true]) (by simp [results, Try.results52, go_sem, z0, z1, z2]) rfl ?_
       exact HY.out _ HS.out.set.drew.drew)
    | (obtain ⟨z0, z1, z2⟩ := HS.out.drew.drew.set.cells
       refine bodyPost_ret (v := .tuple #[.agg #[.int .i64 1, .int .i64 x, .string ⟨#[]⟩], .bool true]) (by simp [results, Try.results52, go_sem, z0, z1, z2]) rfl ?_
       exact HY.out _ HS.out.drew.drew.set)
    | fail
set_option maxRecDepth 100000 in
set_option maxHeartbeats 8000000 in
theorem tv_1b (d : UInt8) (t : List UInt8) (g B : Nat) (w : World) (h : Src w g B (1 :: d :: t)) (hd : 1 < d.toNat) : Calls Try.prog 52 #[.func (.func 63) #[] #[.pointer (some ⟨g, 0, none⟩)]] w (TVT w g B (1 :: d :: t)) := by
  have HS := Lib.hid (GS.new h 0 0 ⟨#[]⟩)
  clear h
  obtain ⟨x, HXC⟩ : ∃ x : Int, Hid (x = (d.toNat : Int)) := ⟨_, Lib.hid rfl⟩
  have hN : wrap64 x = x := by have := d.toNat_lt; rw [HXC.out]; unfold wrap64; omega
  have HY : Hid (∀ W, GS w g B W ⟨1, x, ⟨#[]⟩⟩ (t) → TVT w g B (1 :: d :: t) (.returned (.tuple #[.agg #[.int .i64 1, .int .i64 x, .string ⟨#[]⟩], .bool false])) W) := Lib.hid fun W hW => ⟨hW.gr, ⟨1, x, ⟨#[]⟩⟩, false, t, rfl, hW.src, .inr ⟨rfl, row_1b hd⟩⟩
  have RA : Hid (∀ w, Calls Try.prog 48 #[.agg #[.int .i64 1, .int .i64 x, .string ⟨#[]⟩]] w (Ans (.bool false) w)) := Lib.hid fun w => by
    have h := right_at' ⟨1, x, ⟨#[]⟩⟩ (by exact Nat.zero_le _) w
    rw [show rightB ⟨1, x, ⟨#[]⟩⟩ = false from right_no_boolR (by rw [HXC.out]; omega) (by have := d.toNat_lt; rw [HXC.out]; omega)] at h
    exact h
  go_enter Try.func52, Try.ntmps52
  go_wp2_with fail
  refine (nextX_at _ g B 1 (d :: t) 1 (by first | rfl | decide | exact HXC.out) HS.out.src).mono ?_
  rintro e w1 ⟨rfl, hs1, hg1⟩
  have HV := Lib.hid (HS.out.next hs1 hg1)
  obtain ⟨f0, f1, f2⟩ := HV.out.froz
  obtain ⟨y0, y1, y2⟩ := HV.out.cells
  have HS := Lib.hid (HV.out.set0 1)
  clear hs1 hg1
  go_wp2_with fail
  refine (nextX_at _ g B d t x HXC.out HS.out.src).mono ?_
  rintro e w3 ⟨rfl, hs3, hg3⟩
  have HV := Lib.hid (HS.out.next hs3 hg3)
  obtain ⟨f0, f1, f2⟩ := HV.out.froz
  obtain ⟨y0, y1, y2⟩ := HV.out.cells
  have HS := Lib.hid (HV.out.set1 x)
  clear hs3 hg3
  go_wp2_with fail
  go_region_held3 (fun W => W.cell? ⟨w.heap.size, 0, none⟩ = some (.int .i64 1) ∧ W.cell? ⟨w.heap.size, 1, none⟩ = some (.int .i64 x) ∧ W.cell? ⟨w.heap.size, 2, none⟩ = some (.string ⟨#[]⟩))
    (first | exact HS.out.cells | exact HS.out.drew.cells | exact HS.out.drew.drew.cells | exact HS.out.set.cells | exact HS.out.drew.set.cells | exact HS.out.drew.drew.set.cells | go_keep)
    ((go_at_call 48
      refine (RA.out _).mono ?_
      rintro e w2 ⟨rfl, hb2⟩
      have HS := Lib.hid (GS.keep (by first | exact HS.out | exact HS.out.drew | exact HS.out.drew.drew | exact HS.out.drew.drew.drew) hb2)
      obtain ⟨f0, f1, f2⟩ := HS.out.froz
      clear hb2))
  all_goals go_wp2_with fail
  all_goals first
    | (obtain ⟨z0, z1, z2⟩ := HS.out.set.cells
       refine bodyPost_ret (v := .tuple #[.agg #[.int .i64 1, .int .i64 x, .string ⟨#[]⟩], .bool false]) (by simp [results, Try.results52, go_sem, z0, z1, z2]) rfl ?_
       exact HY.out _ HS.out.set)
    | (obtain ⟨z0, z1, z2⟩ := HS.out.set.drew.cells
       refine bodyPost_ret (v := .tuple #[.agg #[.int .i64 1, .int .i64 x, .string ⟨#[]⟩], .bool false]) (by simp [results, Try.results52, go_sem, z0, z1, z2]) rfl ?_
       exact HY.out _ HS.out.set.drew)
    | (obtain ⟨z0, z1, z2⟩ := HS.out.drew.set.cells
       refine bodyPost_ret (v := .tuple #[.agg #[.int .i64 1, .int .i64 x, .string ⟨#[]⟩], .bool false]) (by simp [results, Try.results52, go_sem, z0, z1, z2]) rfl ?_
       exact HY.out _ HS.out.drew.set)
    | (obtain ⟨z0, z1, z2⟩ := HS.out.set.drew.drew.cells
       refine bodyPost_ret (v := .tuple #[.agg #[.int .i64 1, .int .i64 x, .string ⟨#[]⟩], .bool false]) (by simp [results, Try.results52, go_sem, z0, z1, z2]) rfl ?_
       exact HY.out _ HS.out.set.drew.drew)
    | (obtain ⟨z0, z1, z2⟩ := HS.out.drew.drew.set.cells
       refine bodyPost_ret (v := .tuple #[.agg #[.int .i64 1, .int .i64 x, .string ⟨#[]⟩], .bool false]) (by simp [results, Try.results52, go_sem, z0, z1, z2]) rfl ?_
       exact HY.out _ HS.out.drew.drew.set)
    | fail
end Go.Proofs.Ythdhifnafgidaaa
