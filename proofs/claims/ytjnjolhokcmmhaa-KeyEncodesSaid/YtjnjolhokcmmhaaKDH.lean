/- Package key: cutValue of one byte that wants more. -/
import Derived.Test.YtjnjolhokcmmhaaKDF
namespace Go.Proofs.Ytjnjolhokcmmhaa
open Go.RowKit
set_option maxRecDepth 100000 in
set_option maxHeartbeats 8000000 in
theorem cutValue_1n {C : Nat} (ad : Addr) (w : World) (hab : ad.block < w.heap.size) (x0 : w.cell? ad = some (.int .u8 (1 : UInt8).toNat)) :
    Calls Try.prog 38 #[.slice (some ad) 1 1] w (CVT C w (1 :: [])) := by
  have HY : Hid (∀ W, Below w.heap.size w W → CVT C w (1 :: []) (.returned (.tuple #[.agg #[.int .i64 1, .int .i64 0, .string ⟨#[]⟩], .slice none 0 0, .bool false])) W) := Lib.hid fun W hb => ⟨hb, ⟨1, 0, ⟨#[]⟩⟩, none, 0, 0, false, rfl, .inr ⟨rfl, no_short1⟩⟩
  have CN : Hid (∀ W, VB w W ⟨1, 0, ⟨#[]⟩⟩ → Calls Try.prog 51 #[.slice (some ad) 0 0, .int .i64 1] W (fun e w' => VB w w' ⟨1, 0, ⟨#[]⟩⟩ ∧ e = .returned (.tuple #[.int .u64 0, .slice none 0 0, .bool false]))) := Lib.hid fun W hv => cut_num_no (.inl rfl) (Nat.le_refl 0) (Nat.zero_le _) (RdB.nil _ 0 _) (by decide) W hv
  have HS : Hid (VB w (w.alloc (.cells #[.int .i64 1, .int .i64 0, .string ⟨#[]⟩] 68)) ⟨1, 0, ⟨#[]⟩⟩) := Lib.hid (VB.new _ _ _ _)
  go_enter Try.func38, Try.ntmps38
  go_wp2_with fail
  go_region_law (fail)
  go_wp2_with (go_at_call 51; refine (CN.out _ (by first | exact HS.out | exact HS.out.drew | exact HS.out.drew.drew)).mono ?_; rintro e w5 ⟨hv5, rfl⟩
               obtain ⟨f0, f1, f2⟩ := hv5.froz
               obtain ⟨y0, y1, y2⟩ := hv5.cells
               have HS := Lib.hid (hv5.set1 0)
               clear hv5)
  first | (go_region_law (fail)) | fail
  all_goals go_wp2_with fail
  all_goals first
    | (obtain ⟨z0, z1, z2⟩ := HS.out.set.cells
       refine bodyPost_ret (v := .tuple #[.agg #[.int .i64 1, .int .i64 0, .string ⟨#[]⟩], .slice none 0 0, .bool false]) (by simp [results, Try.results38, go_sem, z0, z1, z2]) rfl ?_
       exact HY.out _ HS.out.set.2)
    | (obtain ⟨z0, z1, z2⟩ := HS.out.set.drew.cells
       refine bodyPost_ret (v := .tuple #[.agg #[.int .i64 1, .int .i64 0, .string ⟨#[]⟩], .slice none 0 0, .bool false]) (by simp [results, Try.results38, go_sem, z0, z1, z2]) rfl ?_
       exact HY.out _ HS.out.set.drew.2)
    | (obtain ⟨z0, z1, z2⟩ := HS.out.drew.set.cells
       refine bodyPost_ret (v := .tuple #[.agg #[.int .i64 1, .int .i64 0, .string ⟨#[]⟩], .slice none 0 0, .bool false]) (by simp [results, Try.results38, go_sem, z0, z1, z2]) rfl ?_
       exact HY.out _ HS.out.drew.set.2)
    | (obtain ⟨z0, z1, z2⟩ := HS.out.set.drew.drew.cells
       refine bodyPost_ret (v := .tuple #[.agg #[.int .i64 1, .int .i64 0, .string ⟨#[]⟩], .slice none 0 0, .bool false]) (by simp [results, Try.results38, go_sem, z0, z1, z2]) rfl ?_
       exact HY.out _ HS.out.set.drew.drew.2)
set_option maxRecDepth 100000 in
set_option maxHeartbeats 8000000 in
theorem cutValue_2n {C : Nat} (ad : Addr) (w : World) (hab : ad.block < w.heap.size) (x0 : w.cell? ad = some (.int .u8 (2 : UInt8).toNat)) :
    Calls Try.prog 38 #[.slice (some ad) 1 1] w (CVT C w (2 :: [])) := by
  have hN : wrap64 (IntKind.u64.wrap (-9223372036854775808)) = -9223372036854775808 := by kernel_rfl
  have HY : Hid (∀ W, Below w.heap.size w W → CVT C w (2 :: []) (.returned (.tuple #[.agg #[.int .i64 2, .int .i64 (-9223372036854775808), .string ⟨#[]⟩], .slice none 0 0, .bool false])) W) := Lib.hid fun W hb => ⟨hb, ⟨2, (-9223372036854775808), ⟨#[]⟩⟩, none, 0, 0, false, rfl, .inr ⟨rfl, no_short8 (by decide) (by decide)⟩⟩
  have CN : Hid (∀ W, VB w W ⟨2, 0, ⟨#[]⟩⟩ → Calls Try.prog 51 #[.slice (some ad) 0 0, .int .i64 8] W (fun e w' => VB w w' ⟨2, 0, ⟨#[]⟩⟩ ∧ e = .returned (.tuple #[.int .u64 0, .slice none 0 0, .bool false]))) := Lib.hid fun W hv => cut_num_no (.inr rfl) (Nat.le_refl 0) (Nat.zero_le _) (RdB.nil _ 0 _) (by decide) W hv
  have HS : Hid (VB w (w.alloc (.cells #[.int .i64 2, .int .i64 0, .string ⟨#[]⟩] 68)) ⟨2, 0, ⟨#[]⟩⟩) := Lib.hid (VB.new _ _ _ _)
  go_enter Try.func38, Try.ntmps38
  go_wp2_with fail
  go_region_law (fail)
  go_wp2_with (go_at_call 51; refine (CN.out _ (by first | exact HS.out | exact HS.out.drew | exact HS.out.drew.drew)).mono ?_; rintro e w5 ⟨hv5, rfl⟩
               obtain ⟨f0, f1, f2⟩ := hv5.froz
               obtain ⟨y0, y1, y2⟩ := hv5.cells
               have HS := Lib.hid (hv5.set1 (-9223372036854775808))
               clear hv5)
  first | (go_region_law (fail)) | fail
  all_goals go_wp2_with fail
  all_goals first
    | (obtain ⟨z0, z1, z2⟩ := HS.out.set.cells
       refine bodyPost_ret (v := .tuple #[.agg #[.int .i64 2, .int .i64 (-9223372036854775808), .string ⟨#[]⟩], .slice none 0 0, .bool false]) (by simp [results, Try.results38, go_sem, z0, z1, z2]) rfl ?_
       exact HY.out _ HS.out.set.2)
    | (obtain ⟨z0, z1, z2⟩ := HS.out.set.drew.cells
       refine bodyPost_ret (v := .tuple #[.agg #[.int .i64 2, .int .i64 (-9223372036854775808), .string ⟨#[]⟩], .slice none 0 0, .bool false]) (by simp [results, Try.results38, go_sem, z0, z1, z2]) rfl ?_
       exact HY.out _ HS.out.set.drew.2)
    | (obtain ⟨z0, z1, z2⟩ := HS.out.drew.set.cells
       refine bodyPost_ret (v := .tuple #[.agg #[.int .i64 2, .int .i64 (-9223372036854775808), .string ⟨#[]⟩], .slice none 0 0, .bool false]) (by simp [results, Try.results38, go_sem, z0, z1, z2]) rfl ?_
       exact HY.out _ HS.out.drew.set.2)
    | (obtain ⟨z0, z1, z2⟩ := HS.out.set.drew.drew.cells
       refine bodyPost_ret (v := .tuple #[.agg #[.int .i64 2, .int .i64 (-9223372036854775808), .string ⟨#[]⟩], .slice none 0 0, .bool false]) (by simp [results, Try.results38, go_sem, z0, z1, z2]) rfl ?_
       exact HY.out _ HS.out.set.drew.drew.2)
set_option maxRecDepth 100000 in
set_option maxHeartbeats 8000000 in
theorem cutValue_3n {C : Nat} (ad : Addr) (w : World) (hab : ad.block < w.heap.size) (x0 : w.cell? ad = some (.int .u8 (3 : UInt8).toNat)) :
    Calls Try.prog 38 #[.slice (some ad) 1 1] w (CVT C w (3 :: [])) := by
  have hN : wrap64 (IntKind.u64.wrap (-9223372036854775808)) = -9223372036854775808 := by kernel_rfl
  have HY : Hid (∀ W, Below w.heap.size w W → CVT C w (3 :: []) (.returned (.tuple #[.agg #[.int .i64 3, .int .i64 (-9223372036854775808), .string ⟨#[]⟩], .slice none 0 0, .bool false])) W) := Lib.hid fun W hb => ⟨hb, ⟨3, (-9223372036854775808), ⟨#[]⟩⟩, none, 0, 0, false, rfl, .inr ⟨rfl, no_short8 (by decide) (by decide)⟩⟩
  have CN : Hid (∀ W, VB w W ⟨3, 0, ⟨#[]⟩⟩ → Calls Try.prog 51 #[.slice (some ad) 0 0, .int .i64 8] W (fun e w' => VB w w' ⟨3, 0, ⟨#[]⟩⟩ ∧ e = .returned (.tuple #[.int .u64 0, .slice none 0 0, .bool false]))) := Lib.hid fun W hv => cut_num_no (.inr rfl) (Nat.le_refl 0) (Nat.zero_le _) (RdB.nil _ 0 _) (by decide) W hv
  have HS : Hid (VB w (w.alloc (.cells #[.int .i64 3, .int .i64 0, .string ⟨#[]⟩] 68)) ⟨3, 0, ⟨#[]⟩⟩) := Lib.hid (VB.new _ _ _ _)
  go_enter Try.func38, Try.ntmps38
  go_wp2_with fail
  go_region_law (fail)
  go_wp2_with (go_at_call 51; refine (CN.out _ (by first | exact HS.out | exact HS.out.drew | exact HS.out.drew.drew)).mono ?_; rintro e w5 ⟨hv5, rfl⟩
               obtain ⟨f0, f1, f2⟩ := hv5.froz
               obtain ⟨y0, y1, y2⟩ := hv5.cells
               have HS := Lib.hid (hv5.set1 (-9223372036854775808))
               clear hv5)
  first | (go_region_law (fail)) | fail
  all_goals go_wp2_with fail
  all_goals first
    | (obtain ⟨z0, z1, z2⟩ := HS.out.set.cells
       refine bodyPost_ret (v := .tuple #[.agg #[.int .i64 3, .int .i64 (-9223372036854775808), .string ⟨#[]⟩], .slice none 0 0, .bool false]) (by simp [results, Try.results38, go_sem, z0, z1, z2]) rfl ?_
       exact HY.out _ HS.out.set.2)
    | (obtain ⟨z0, z1, z2⟩ := HS.out.set.drew.cells
       refine bodyPost_ret (v := .tuple #[.agg #[.int .i64 3, .int .i64 (-9223372036854775808), .string ⟨#[]⟩], .slice none 0 0, .bool false]) (by simp [results, Try.results38, go_sem, z0, z1, z2]) rfl ?_
       exact HY.out _ HS.out.set.drew.2)
    | (obtain ⟨z0, z1, z2⟩ := HS.out.drew.set.cells
       refine bodyPost_ret (v := .tuple #[.agg #[.int .i64 3, .int .i64 (-9223372036854775808), .string ⟨#[]⟩], .slice none 0 0, .bool false]) (by simp [results, Try.results38, go_sem, z0, z1, z2]) rfl ?_
       exact HY.out _ HS.out.drew.set.2)
    | (obtain ⟨z0, z1, z2⟩ := HS.out.set.drew.drew.cells
       refine bodyPost_ret (v := .tuple #[.agg #[.int .i64 3, .int .i64 (-9223372036854775808), .string ⟨#[]⟩], .slice none 0 0, .bool false]) (by simp [results, Try.results38, go_sem, z0, z1, z2]) rfl ?_
       exact HY.out _ HS.out.set.drew.drew.2)
set_option maxRecDepth 100000 in
set_option maxHeartbeats 8000000 in
theorem cutValue_4n {C : Nat} (ad : Addr) (w : World) (hab : ad.block < w.heap.size) (x0 : w.cell? ad = some (.int .u8 (4 : UInt8).toNat)) :
    Calls Try.prog 38 #[.slice (some ad) 1 1] w (CVT C w (4 :: [])) := by
  have HY : Hid (∀ W, Below w.heap.size w W → CVT C w (4 :: []) (.returned (.tuple #[.agg #[.int .i64 4, .int .i64 0, .string ⟨#[]⟩], .slice none 0 0, .bool false])) W) := Lib.hid fun W hb => ⟨hb, ⟨4, 0, ⟨#[]⟩⟩, none, 0, 0, false, rfl, .inr ⟨rfl, no_text (by decide) (fun s r h => by simp [cutT] at h)⟩⟩
  have CN : Hid (∀ W, VB w W ⟨4, 0, ⟨#[]⟩⟩ → Calls Try.prog 52 #[.slice (some ad) 0 0] W (fun e w' => VB w w' ⟨4, 0, ⟨#[]⟩⟩ ∧ e = .returned (.tuple #[.string ⟨#[]⟩, .slice none 0 0, .bool false]))) := Lib.hid fun W hv => cut_text_no (t := []) (by decide) (Nat.le_refl 0) (Nat.zero_le _) (RdB.nil _ 0 _) rfl W hv
  have HS : Hid (VB w (w.alloc (.cells #[.int .i64 4, .int .i64 0, .string ⟨#[]⟩] 68)) ⟨4, 0, ⟨#[]⟩⟩) := Lib.hid (VB.new _ _ _ _)
  go_enter Try.func38, Try.ntmps38
  go_wp2_with fail
  go_region_law (fail)
  go_wp2_with (go_at_call 52; refine (CN.out _ (by first | exact HS.out | exact HS.out.drew | exact HS.out.drew.drew)).mono ?_; rintro e w5 ⟨hv5, rfl⟩
               obtain ⟨f0, f1, f2⟩ := hv5.froz
               obtain ⟨y0, y1, y2⟩ := hv5.cells
               have HS := Lib.hid (hv5.set2 ⟨#[]⟩)
               clear hv5)
  first | (go_region_law (fail)) | fail
  all_goals go_wp2_with fail
  all_goals first
    | (obtain ⟨z0, z1, z2⟩ := HS.out.set.cells
       refine bodyPost_ret (v := .tuple #[.agg #[.int .i64 4, .int .i64 0, .string ⟨#[]⟩], .slice none 0 0, .bool false]) (by simp [results, Try.results38, go_sem, z0, z1, z2]) rfl ?_
       exact HY.out _ HS.out.set.2)
    | (obtain ⟨z0, z1, z2⟩ := HS.out.set.drew.cells
       refine bodyPost_ret (v := .tuple #[.agg #[.int .i64 4, .int .i64 0, .string ⟨#[]⟩], .slice none 0 0, .bool false]) (by simp [results, Try.results38, go_sem, z0, z1, z2]) rfl ?_
       exact HY.out _ HS.out.set.drew.2)
    | (obtain ⟨z0, z1, z2⟩ := HS.out.drew.set.cells
       refine bodyPost_ret (v := .tuple #[.agg #[.int .i64 4, .int .i64 0, .string ⟨#[]⟩], .slice none 0 0, .bool false]) (by simp [results, Try.results38, go_sem, z0, z1, z2]) rfl ?_
       exact HY.out _ HS.out.drew.set.2)
    | (obtain ⟨z0, z1, z2⟩ := HS.out.set.drew.drew.cells
       refine bodyPost_ret (v := .tuple #[.agg #[.int .i64 4, .int .i64 0, .string ⟨#[]⟩], .slice none 0 0, .bool false]) (by simp [results, Try.results38, go_sem, z0, z1, z2]) rfl ?_
       exact HY.out _ HS.out.set.drew.drew.2)
set_option maxRecDepth 100000 in
set_option maxHeartbeats 8000000 in
theorem cutValue_5n {C : Nat} (ad : Addr) (w : World) (hab : ad.block < w.heap.size) (x0 : w.cell? ad = some (.int .u8 (5 : UInt8).toNat)) :
    Calls Try.prog 38 #[.slice (some ad) 1 1] w (CVT C w (5 :: [])) := by
  have HY : Hid (∀ W, Below w.heap.size w W → CVT C w (5 :: []) (.returned (.tuple #[.agg #[.int .i64 5, .int .i64 0, .string ⟨#[]⟩], .slice none 0 0, .bool false])) W) := Lib.hid fun W hb => ⟨hb, ⟨5, 0, ⟨#[]⟩⟩, none, 0, 0, false, rfl, .inr ⟨rfl, no_text (by decide) (fun s r h => by simp [cutT] at h)⟩⟩
  have CN : Hid (∀ W, VB w W ⟨5, 0, ⟨#[]⟩⟩ → Calls Try.prog 52 #[.slice (some ad) 0 0] W (fun e w' => VB w w' ⟨5, 0, ⟨#[]⟩⟩ ∧ e = .returned (.tuple #[.string ⟨#[]⟩, .slice none 0 0, .bool false]))) := Lib.hid fun W hv => cut_text_no (t := []) (by decide) (Nat.le_refl 0) (Nat.zero_le _) (RdB.nil _ 0 _) rfl W hv
  have HS : Hid (VB w (w.alloc (.cells #[.int .i64 5, .int .i64 0, .string ⟨#[]⟩] 68)) ⟨5, 0, ⟨#[]⟩⟩) := Lib.hid (VB.new _ _ _ _)
  go_enter Try.func38, Try.ntmps38
  go_wp2_with fail
  go_region_law (fail)
  go_wp2_with (go_at_call 52; refine (CN.out _ (by first | exact HS.out | exact HS.out.drew | exact HS.out.drew.drew)).mono ?_; rintro e w5 ⟨hv5, rfl⟩
               obtain ⟨f0, f1, f2⟩ := hv5.froz
               obtain ⟨y0, y1, y2⟩ := hv5.cells
               have HS := Lib.hid (hv5.set2 ⟨#[]⟩)
               clear hv5)
  first | (go_region_law (fail)) | fail
  all_goals go_wp2_with fail
  all_goals first
    | (obtain ⟨z0, z1, z2⟩ := HS.out.set.cells
       refine bodyPost_ret (v := .tuple #[.agg #[.int .i64 5, .int .i64 0, .string ⟨#[]⟩], .slice none 0 0, .bool false]) (by simp [results, Try.results38, go_sem, z0, z1, z2]) rfl ?_
       exact HY.out _ HS.out.set.2)
    | (obtain ⟨z0, z1, z2⟩ := HS.out.set.drew.cells
       refine bodyPost_ret (v := .tuple #[.agg #[.int .i64 5, .int .i64 0, .string ⟨#[]⟩], .slice none 0 0, .bool false]) (by simp [results, Try.results38, go_sem, z0, z1, z2]) rfl ?_
       exact HY.out _ HS.out.set.drew.2)
    | (obtain ⟨z0, z1, z2⟩ := HS.out.drew.set.cells
       refine bodyPost_ret (v := .tuple #[.agg #[.int .i64 5, .int .i64 0, .string ⟨#[]⟩], .slice none 0 0, .bool false]) (by simp [results, Try.results38, go_sem, z0, z1, z2]) rfl ?_
       exact HY.out _ HS.out.drew.set.2)
    | (obtain ⟨z0, z1, z2⟩ := HS.out.set.drew.drew.cells
       refine bodyPost_ret (v := .tuple #[.agg #[.int .i64 5, .int .i64 0, .string ⟨#[]⟩], .slice none 0 0, .bool false]) (by simp [results, Try.results38, go_sem, z0, z1, z2]) rfl ?_
       exact HY.out _ HS.out.set.drew.drew.2)
end Go.Proofs.Ytjnjolhokcmmhaa
